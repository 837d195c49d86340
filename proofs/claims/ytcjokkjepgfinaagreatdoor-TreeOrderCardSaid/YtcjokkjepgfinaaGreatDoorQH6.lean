import Derived.Test.YtcjokkjepgfinaaGreatDoorQH5
set_option linter.unusedVariables false
set_option linter.unusedSimpArgs false
namespace Go.Proofs.YtcjokkjepgfinaaGreatDoor.Tr
set_option maxRecDepth 8000
open Go.RowKit Mem Sk
open Dk (Fr)
theorem results_c {fn : Func} {a : Tmp} {t : TypeId} {tmps : Array Value} {w : World} (h : fn.results = #[.cell a t]) (b : Nat) (cs : List Value) (dd : TypeDesc) (ha : tmps.getD a undef = .pointer (some ⟨b, 0, none⟩)) (hc : w.rangeAt b 0 cs)
    (hu : Tryz.prog.underlying t = some dd) (hd : dd.isRow = true) (hi : (Tryz.prog.info? t).map (·.size) = some cs.length) : (results fn tmps).run Tryz.prog w = .ok (.agg cs.toArray) w := by
  have hl := run_loadVar_mid w b 0 t cs dd hc hu hd hi
  have ha' : tmps[a]?.getD undef = .pointer (some ⟨b, 0, none⟩) := by rw [← ha]; simp
  simp [results, h, ha', asAddr, hl]
theorem info_span : (Tryz.prog.info? 72).map (·.size) = some 2 := by kernel_rfl
theorem info_node : (Tryz.prog.info? 75).map (·.size) = some 5 := by kernel_rfl
theorem info_item : (Tryz.prog.info? 80).map (·.size) = some 3 := by kernel_rfl
theorem range2 {w : World} {b : Nat} {x y : Value} (h0 : w.cell? ⟨b, 0, none⟩ = some x) (h1 : w.cell? ⟨b, 1, none⟩ = some y) : w.rangeAt b 0 [x, y] := fun j v hj => by
  rcases j with _ | _ | j
  · simp at hj; subst hj; exact h0
  · simp at hj; subst hj; exact h1
  · simp at hj
theorem poke2 {W : World} {k : Nat} {x0 y0 : Value} (h0 : W.cell? ⟨k, 0, none⟩ = some x0) (h1 : W.cell? ⟨k, 1, none⟩ = some y0) (x y : Value) :
    ((W.setCell ⟨k, 0, none⟩ x).setCell ⟨k, 1, none⟩ y).drew.rangeAt k 0 [x, y] :=
  range2 ((World.cell?_setCell_other _ _ _ _ (by simp)).trans (World.cell?_setCell_same _ _ _ h0)) (World.cell?_setCell_same _ _ _ ((World.cell?_setCell_other _ _ _ _ (by simp)).trans h1))
section
variable {w w' : World} {F G : Nat → Prop} {N : Nat} {v : Value}
set_option maxHeartbeats 1000000 in
theorem find_any {l : List It} {A3 : Option Addr} {c3 : Nat} {key : By} (p k : Int) (A1 A2 : Option Addr) (n1 n2 c1 c2 : Nat) (h : KR w F N v l) (ho : Ord l) (hs : isum l ≤ 1000000000) (hk : Rd w w.heap.size A3 c3 key) :
    Calls Tryz.prog 33 #[.agg #[.int .i64 p, .int .i64 k, .slice A1 n1 c1, .slice A2 n2 c2, v], .slice A3 key.length c3] w fun e w' => e = .returned (.tuple #[.int .i64 (lows l key : Nat), .bool (hasK l key)]) ∧ Below w.heap.size w w' := by
  obtain ⟨A, c, rfl, _, _⟩ := h.form
  have B0 := Lib.hid (box1 w (.cells #[.int .i64 p, .int .i64 k, .slice A1 n1 c1, .slice A2 n2 c2, .slice A l.length c] 75))
  have C := Lib.hid (fun W (hb : Below w.heap.size w W) => search_any (h.kf (kfb hb)) ho hs ((hk.below hb).more hb.size))
  clear h ho hs hk
  generalize l.length = n at *
  generalize key.length = nk at *
  generalize lows l key = lo at *
  generalize hasK l key = ha at *
  go_enter Tryz.func33, Tryz.ntmps33
  go_wp2_with (go_at_call 60; refine (C.out _ B0.out).mono ?_; rintro e w1 ⟨rfl, hb1⟩; have B1 := Lib.hid hb1; clear hb1)
  go_ret2
  exact ⟨rfl, B0.out.trans (B1.out.mono B0.out.size)⟩
set_option maxHeartbeats 1000000 in
theorem toward_any {l : List It} {A3 : Option Addr} {c3 : Nat} {key : By} (p k : Int) (A1 A2 : Option Addr) (n1 n2 c1 c2 : Nat) (h : KR w F N v l) (ho : Ord l) (hs : isum l ≤ 1000000000) (hk : Rd w w.heap.size A3 c3 key) (hp : hasK l key = true ∨ 0 < lows l key) :
    Calls Tryz.prog 58 #[.agg #[.int .i64 p, .int .i64 k, .slice A1 n1 c1, .slice A2 n2 c2, v], .slice A3 key.length c3] w fun e w' => e = .returned (.int .i64 (toward l key : Nat)) ∧ Below w.heap.size w w' := by
  obtain ⟨A, c, rfl, _, _⟩ := h.form
  have hlen : lows l key ≤ 1000000000 := by have := lows_le l key; have := len_le_isum l; omega
  have B0 := Lib.hid (box1 w (.cells #[.int .i64 p, .int .i64 k, .slice A1 n1 c1, .slice A2 n2 c2, .slice A l.length c] 75))
  have C := Lib.hid (fun W (hb : Below w.heap.size w W) => find_any p k A1 A2 n1 n2 c1 c2 (h.kf (kfb hb)) ho hs ((hk.below hb).more hb.size))
  have ht : toward l key = if hasK l key then lows l key else lows l key - 1 := rfl
  rw [ht]
  clear h ho hs hk ht
  generalize l.length = n at *
  generalize key.length = nk at *
  generalize lows l key = lo at *
  by_cases hh : hasK l key = true
  · rw [hh] at C ⊢
    rw [if_pos rfl]
    clear hp hh
    go_enter Tryz.func58, Tryz.ntmps58
    go_wp2_with (go_at_call 33; refine (C.out _ B0.out).mono ?_; rintro e w1 ⟨rfl, hb1⟩; have B1 := Lib.hid hb1; clear hb1)
    go_ret
    exact ⟨rfl, B0.out.trans (B1.out.mono B0.out.size)⟩
  · have hp := hp.resolve_left hh
    have hh : hasK l key = false := by simpa using hh
    rw [hh] at C ⊢
    rw [if_neg (by simp)]
    have hw : (lo : Int) - 1 = ((lo - 1 : Nat) : Int) := by omega
    have HW := Lib.hid hw
    clear hp hh hw
    go_enter Tryz.func58, Tryz.ntmps58
    go_wp2_with (go_at_call 33; refine (C.out _ B0.out).mono ?_; rintro e w1 ⟨rfl, hb1⟩; have B1 := Lib.hid hb1; clear hb1)
    go_ret
    exact ⟨by rw [← HW.out]; rfl, B0.out.trans (B1.out.mono B0.out.size)⟩
set_option maxHeartbeats 2000000 in
theorem span_any {w0 : World} {l : List It} (p k : Int) (A1 A2 : Option Addr) (n1 c1 c2 : Nat) {hi : By} (h : KR w0 F N v l) (hb0 : Below w0.heap.size w0 w) (hs : isum l ≤ 1000000000) (h2 : RdF w0 F (.slice A2 hi.length c2) hi) {i : Nat} (hi' : i < l.length) :
    Calls Tryz.prog 69 #[.agg #[.int .i64 p, .int .i64 k, .slice A1 n1 c1, .slice A2 hi.length c2, v], .int .i64 (i : Int)] w fun e w' => ∃ Ak ck At ct nt, e = .returned (.agg #[.slice Ak l[i].1.length ck, .slice At nt ct]) ∧ RdF w0 F (.slice Ak l[i].1.length ck) l[i].1 ∧ RdF w0 F (.slice At nt ct) (nxt hi (l.drop (i + 1))) ∧ Below w.heap.size w w' := by
  obtain ⟨A, c, rfl, _, _⟩ := h.form
  have hlen : l.length ≤ 1000000000 := by have := len_le_isum l; omega
  obtain ⟨W, hW⟩ : ∃ W, W = (w.alloc (.cells #[.int .i64 p, .int .i64 k, .slice A1 n1 c1, .slice A2 hi.length c2, .slice A l.length c] 75)).alloc (.cells #[.slice none 0 0, .slice none 0 0] 72) := ⟨_, rfl⟩
  have hB0 : Below w.heap.size w W := hW ▸ (box1 w _).alloc (by simp) _
  have v3 : W.cell? ⟨w.heap.size, 3, none⟩ = some (.slice A2 hi.length c2) := by rw [hW]; simp [go_sem]
  have v4 : W.cell? ⟨w.heap.size, 4, none⟩ = some (.slice A l.length c) := by rw [hW]; simp [go_sem]
  have s0 : W.cell? ⟨w.heap.size + 1, 0, none⟩ = some (.slice none 0 0) := by rw [hW]; simp [go_sem]
  have s1 : W.cell? ⟨w.heap.size + 1, 1, none⟩ = some (.slice none 0 0) := by rw [hW]; simp [go_sem]
  have f0 : W.frozen? ⟨w.heap.size + 1, 0, none⟩ = false := by rw [hW]; simp [go_sem]
  have f1 : W.frozen? ⟨w.heap.size + 1, 1, none⟩ = false := by rw [hW]; simp [go_sem]
  obtain ⟨b, o, Ak, ck, Ar, cr, q, rfl, g1, -, -, -, -, r1, -⟩ := h.at hi'
  have R1 := Lib.hid r1
  have g1 := (hb0.cell (p := ⟨b, o + i * 3, none⟩) (Dk.lt_of_cell g1)).trans g1
  have g1 := (hB0.cell (p := ⟨b, o + i * 3, none⟩) (Dk.lt_of_cell g1)).trans g1
  have B0 := Lib.hid hB0
  clear r1 hB0
  have hw : wrap64 ((i : Int) + 1) = (i : Int) + 1 := by unfold wrap64; omega
  have hwi : IntKind.i64.wrap ((i : Int) + 1) = (i : Int) + 1 := by rw [IntKind.wrap_i64]; omega
  have h0i : (i : Int) < (l.length : Int) := by omega
  by_cases hl : i + 1 < l.length
  · obtain ⟨b', o', At, ct, Ar', cr', q', e, g2, -, -, -, -, r2, -⟩ := h.at hl
    injection e with e; injection e with e1 e2; subst e1 e2
    have hnx : nxt hi (l.drop (i + 1)) = l[i + 1].1 := by rw [List.drop_eq_getElem_cons hl]; rfl
    have R2 := Lib.hid r2
    have HN := Lib.hid hnx
    have g2 := (hb0.cell (p := ⟨b, o + (i + 1) * 3, none⟩) (Dk.lt_of_cell g2)).trans g2
    have g2 := (B0.out.cell (p := ⟨b, o + (i + 1) * 3, none⟩) (Dk.lt_of_cell g2)).trans g2
    have h1i : (i : Int) + 1 < (l.length : Int) := by omega
    have j0 : (0 : Int) ≤ (i : Int) + 1 := by omega
    have j1 : ((i : Int) + 1).toNat = i + 1 := by omega
    have HW := Lib.hid hW
    clear r2 hnx h h2 hs hW hb0
    go_enter Tryz.func69, Tryz.ntmps69
    go_wp2_with fail
    rw [← HW.out]
    go_still_tail 14, (by kernel_rfl)
    change wpList _ _ _ _ _ W.drew
    go_wp2
    refine bodyPost_ret (results_c rfl (w.heap.size + 1) _ _ rfl (poke2 s0 s1 _ _) Tryz.underlying72 rfl info_span) rfl ?_
    exact ⟨Ak, ck, At, ct, _, rfl, R1.out, by rw [HN.out]; exact R2.out, ((B0.out.setCell (by simp) _).setCell (by simp) _).drew⟩
  · have hnx : nxt hi (l.drop (i + 1)) = hi := by rw [List.drop_eq_nil_of_le (by omega)]; rfl
    have HN := Lib.hid hnx
    have H2 := Lib.hid h2
    have h1i : ¬ (i : Int) + 1 < (l.length : Int) := by omega
    have HW := Lib.hid hW
    clear hnx h h2 hs hW hb0
    go_enter Tryz.func69, Tryz.ntmps69
    go_wp2_with fail
    rw [← HW.out]
    go_still_tail 10, (by kernel_rfl)
    change wpList _ _ _ _ _ W.drew
    go_wp2
    refine bodyPost_ret (results_c rfl (w.heap.size + 1) _ _ rfl (poke2 s0 s1 _ _) Tryz.underlying72 rfl info_span) rfl ?_
    exact ⟨Ak, ck, _, _, _, rfl, R1.out, by rw [HN.out]; exact H2.out, ((B0.out.setCell (by simp) _).setCell (by simp) _).drew⟩
end
end Go.Proofs.YtcjokkjepgfinaaGreatDoor.Tr
