import Derived.Test.YtmekdodkpimabaaDoorFG
namespace Go.Proofs.YtmekdodkpimabaaDoor
set_option linter.unusedVariables false
set_option linter.unusedSimpArgs false
open Go.RowKit Mem

theorem be_one (k : Nat) (hk : k < 256) : be 1 k = [UInt8.ofNat k] := by simp [be]
theorem bcs_one (k : Nat) (hk : k < 256) : #[Value.int .u8 (k : Int)] = bcs (be 1 k) := by
  rw [be_one k hk]
  simp only [bcs, List.map_cons, List.map_nil, bv, UInt8.toNat_ofNat']
  rw [Nat.mod_eq_of_lt (by omega)]

/-- A string becomes bytes. -/
theorem to_bytes (l : List UInt8) (W : World) (n : Nat) (hn : l.length = n) (hl : n ≤ 100000) : ∃ c W', (convert 9 23 (.string (str l))).run Tryd.prog W = .ok (.slice (some ⟨W.heap.size, 0, none⟩) n c) W' ∧ Rd W' W'.heap.size (some ⟨W.heap.size, 0, none⟩) c l ∧ Below W.heap.size W W' := by
  subst hn
  have h := run_bytes_of_string (P := Tryd.prog) W 9 23 5 (str l) Tryd.underlying9 Tryd.underlying23 Tryd.underlying5
  rw [str_size] at h
  refine ⟨_, _, h, ⟨grownCap_ge _ _ _ _, grownCap_le_maxLen _ _ _ _ (by unfold maxLen; omega), fun e => (by cases e), fun _ => ⟨W.heap.size, 0, rfl, by rw [size_alloc']; show W.heap.size < W.heap.size + 1; omega, fun i hi => ?_⟩⟩, ((Below.refl _ W).drew).alloc (Nat.le_refl _) _⟩
  show (W.drew.alloc _).cell? ⟨W.drew.heap.size, 0 + i, none⟩ = _
  rw [cell_of_row _ _ _ _ _ _ (heap_alloc_new W.drew _), Nat.zero_add]
  unfold bytesRow
  rw [Array.getElem?_append_left (by simp [str]; exact hi)]
  simp [str, hi, bv]
theorem run_scut (I : List UInt8) (q p : Nat) (hI : I.length = 4032) (hq : q < 8) (hp : p = 504 * q) (W : World) : (Instr.sliceAt 9 (.string (str I)) (some (.int .i64 (p : Int))) (some (.int .i64 ((p : Int) + 504))) none).run Tryd.prog W = .ok (.string (str (Frm.seg I q))) W := by
  have f0 : (str I).size = 4032 := by rw [str_size, hI]
  have f1 : ((p : Int) + 504).toNat = p + 504 := by omega
  have f2 : (p : Int) + 504 ≤ 4032 := by omega
  have f4 : (0 : Int) ≤ (p : Int) + 504 := by omega
  have f6 : (p : Int) ≤ (p : Int) + 504 := by omega
  have f7 : (str I).extract p (p + 504) = str (Frm.seg I q) := by
    rw [hp]
    apply ByteArray.ext
    apply Array.toList_inj.1
    simp [str, Frm.seg, ByteArray.extract, ByteArray.copySlice]
  clear hp hq hI
  go_simp
theorem make_zn (n : Nat) (hn : n ≤ 10000) (C : Array Value) (hC : bcs (zeros n) = C) : ∀ W, (Instr.makeSlice 23 (.int .i64 (n : Int)) (.int .i64 (n : Int))).run Tryd.prog W = .ok (.slice (some ⟨W.heap.size, 0, none⟩) n n) (W.alloc (.cells C 5)) := by
  intro W
  have hr := run_make_row' (P := Tryd.prog) 23 5 (.int .u8 0) 1 Tryd.underlying23 u8_info rfl .i64 .i64 n (by omega) (by omega) W
  rw [bcs_zeros] at hr
  rw [← hC]
  exact hr
theorem conv_row (W : World) (l : List UInt8) (C : Array Value) (hC : C = bcs l) (n : Nat) (hn : l.length = n) (hl : n ≤ 100000) : (convert 23 9 (.slice (some ⟨W.heap.size, 0, none⟩) n n)).run Tryd.prog (W.alloc (.cells C 5)) = .ok (.string (str l)) (W.alloc (.cells C 5)) := by
  subst hn
  exact run_str_rd _ (rd_litc W l C hC hl)

set_option maxRecDepth 20000 in
set_option maxHeartbeats 4000000 in
theorem frame_ref (a k s n : Nat) (b : List UInt8) (w : World) (ha : a < 4096) (hk : k < 256) (hs : s < 18446744073709551616) (hbn : b.length = n) (hn : n ≤ 4011) :
    Calls Tryd.prog 11 #[.int .i64 a, .int .u8 k, .int .u64 s, .string (str b)] w fun e w' => e = .returned (.string (str (Frm.frame a k s b))) ∧ Below w.heap.size w w' := by
  have HN1 : Hid (∀ W, Calls Tryd.prog 20 #[.int .u64 s, .int .i64 8] W fun e w' => ∃ v, e = .returned v ∧ Mem.Own 5 w' W.heap.size v (be 8 s) ∧ Below W.heap.size W w') := Lib.hid fun W => Number_any s 8 W (by omega) (by omega) (by omega)
  have HN2 : Hid (∀ W, Calls Tryd.prog 20 #[.int .u64 a, .int .i64 8] W fun e w' => ∃ v, e = .returned v ∧ Mem.Own 5 w' W.heap.size v (be 8 a) ∧ Below W.heap.size W w') := Lib.hid fun W => Number_any a 8 W (by omega) (by omega) (by omega)
  have HN3 : Hid (∀ W, Calls Tryd.prog 20 #[.int .u64 n, .int .i64 8] W fun e w' => ∃ v, e = .returned v ∧ Mem.Own 5 w' W.heap.size v (be 8 n) ∧ Below W.heap.size W w') := Lib.hid fun W => Number_any n 8 W (by omega) (by omega) (by omega)
  have hsz : (str b).size = n := (str_size b).trans hbn
  have hw1 : IntKind.u64.wrap (a : Int) = a := by rw [IntKind.wrap_u64]; omega
  have hw2 : IntKind.u64.wrap (n : Int) = n := by rw [IntKind.wrap_u64]; omega
  have HBN := Lib.hid hbn
  clear hbn
  go_enter Tryd.func11, Tryd.ntmps11
  go_upto_region 2 with (go_at_call 20; refine (HN1.out _).mono ?_; rintro e w1 ⟨v1, rfl, ho1, hb1⟩; have k1 := run_str_own w1 ho1; have B1 := Lib.hid hb1; clear ho1 hb1)
  go_cut [10] from 17 (fun v wc => v = .string (str (Frm.head a k n ++ b)) ∧ Hid (Below w.heap.size w wc))
  case first =>
    have Cw1 := B1
    have hadd1 := fun W => str_add W (be 8 a) (be 1 k) (by rw [length_be, length_be]; omega)
    have hadd2 := fun W => str_add W (be 8 a ++ be 1 k) (be 8 n) (by rw [List.length_append, length_be, length_be, length_be]; omega)
    have hadd3 : ∀ W, (Op.stringOp .add (str (be 8 a ++ (be 1 k ++ be 8 n))) (str b)).run Tryd.prog W = .ok (.string (str (be 8 a ++ (be 1 k ++ (be 8 n ++ b))))) W := fun W => by
      have := str_add W (be 8 a ++ (be 1 k ++ be 8 n)) b (by rw [List.length_append, List.length_append, length_be, length_be, length_be, HBN.out]; omega)
      simpa only [List.append_assoc] using this
    have HFIN : Hid (str (be 8 a ++ (be 1 k ++ (be 8 n ++ b))) = str (Frm.head a k n ++ b)) := Lib.hid (by simp [Frm.head, List.append_assoc])
    rename_i J K' hJ hK'
    have HJ := Lib.hid hJ
    have HK' := Lib.hid hK'
    clear k1 hJ hK'
    refine wp_region_held_drew (S := fun X => Below w1.heap.size w1 X) (by kernel_rfl) ((Below.refl _ _).drew) (fun hHeld => ?_)
    refine wpAnyH_take (i := 0) (v := ?_) rfl (by kernel_rfl) (by kernel_rfl) (by kernel_rfl) (fun _ _ _ h => h) (Or.inl ⟨by rfl, ?_⟩) (by assumption) ?_
    rotate_left 1
    · intro w hSw; (try dsimp only at hSw); go_simp; try (with_reducible rfl)
    try simp only [Act.put, List.getElem_toArray, List.getElem_cons_zero, List.getElem_cons_succ, List.setIfInBounds_toArray, List.set_cons_zero, List.set_cons_succ]
    refine wpAnyH_take (i := 1) (v := ?_) rfl (by kernel_rfl) (by kernel_rfl) (by kernel_rfl) (fun _ _ _ h => h) (Or.inl ⟨by rfl, ?_⟩) (by assumption) ?_
    rotate_left 1
    · intro w hSw; (try dsimp only at hSw); go_simp; try (with_reducible rfl)
    try simp only [Act.put, List.getElem_toArray, List.getElem_cons_zero, List.getElem_cons_succ, List.setIfInBounds_toArray, List.set_cons_zero, List.set_cons_succ]
    refine wpAnyH_take (i := 4) (v := ?_) rfl (by kernel_rfl) (by kernel_rfl) (by kernel_rfl) (fun _ _ _ h => h) (Or.inl ⟨by rfl, ?_⟩) (by assumption) ?_
    rotate_left 1
    · intro w hSw; (try dsimp only at hSw); go_simp; try (with_reducible rfl)
    try simp only [Act.put, List.getElem_toArray, List.getElem_cons_zero, List.getElem_cons_succ, List.setIfInBounds_toArray, List.set_cons_zero, List.set_cons_succ]
    refine wpAnyH_take (i := 8) (v := ?_) rfl (by kernel_rfl) (by kernel_rfl) (by kernel_rfl) (fun _ _ _ h => h) (Or.inl ⟨by rfl, ?_⟩) (by assumption) ?_
    rotate_left 1
    · intro w hSw; (try dsimp only at hSw); go_simp; try (with_reducible rfl)
    try simp only [Act.put, List.getElem_toArray, List.getElem_cons_zero, List.getElem_cons_succ, List.setIfInBounds_toArray, List.set_cons_zero, List.set_cons_succ]
    refine wpAnyH_take (i := 9) (v := ?_) rfl (by kernel_rfl) (by kernel_rfl) (by kernel_rfl) (fun _ _ _ h => h) (Or.inl ⟨by rfl, ?_⟩) (by assumption) ?_
    rotate_left 1
    · intro w hSw; (try dsimp only at hSw); go_simp; try (with_reducible rfl)
    try simp only [Act.put, List.getElem_toArray, List.getElem_cons_zero, List.getElem_cons_succ, List.setIfInBounds_toArray, List.set_cons_zero, List.set_cons_succ]
    refine wpAnyH_take (i := 10) (v := ?_) rfl (by kernel_rfl) (by kernel_rfl) (by kernel_rfl) (fun _ _ _ h => h) (Or.inl ⟨by rfl, ?_⟩) (by assumption) ?_
    rotate_left 1
    · intro w hSw; (try dsimp only at hSw); go_simp; try (with_reducible rfl)
    try simp only [Act.put, List.getElem_toArray, List.getElem_cons_zero, List.getElem_cons_succ, List.setIfInBounds_toArray, List.set_cons_zero, List.set_cons_succ]
    refine wpAnyH_take (i := 14) (v := ?_) rfl (by kernel_rfl) (by kernel_rfl) (by kernel_rfl) (fun _ _ _ h => h) (Or.inl ⟨by rfl, ?_⟩) (by assumption) ?_
    rotate_left 1
    · intro w hSw; (try dsimp only at hSw); go_simp; try (with_reducible rfl)
    try simp only [Act.put, List.getElem_toArray, List.getElem_cons_zero, List.getElem_cons_succ, List.setIfInBounds_toArray, List.set_cons_zero, List.set_cons_succ]
    refine wpAnyH_ready (rs := [2, 5]) (by kernel_rfl) (by simp) ?_
    refine AllReadyH.cons rfl (fun K hK => ?_) (AllReadyH.cons rfl (fun K hK => ?_) AllReadyH.nil)
    · skip
      go_simp
      refine (HN2.out _).mono ?_
      rintro e w2 ⟨v2, rfl, ho, hb⟩
      have hcv2 : Hid (∀ X, Below w2.heap.size w2 X → (convert 23 9 v2).run Tryd.prog X = .ok (.string (str (be 8 a))) X) := Lib.hid fun X h => run_str_own X (ho.below h (Nat.le_refl _))
      have hn : Below w1.heap.size w1 w2 := hHeld.trans (hb.mono hHeld.size)
      have Cw2 := Lib.hid (Cw1.out.trans (hn.mono Cw1.out.size))
      clear ho hb hHeld
      go_wp2_with fail
      refine hK.out _ _ hn (fun _ => ?_)
      clear hK K
      try simp only [Act.put, List.getElem_toArray, List.getElem_cons_zero, List.getElem_cons_succ, List.setIfInBounds_toArray, List.set_cons_zero, List.set_cons_succ]
      refine wpAnyH_more (S' := fun X => Below w2.heap.size w2 X) (fun X h => hn.trans (h.mono hn.size)) _ _ _ _ ?_
      have hHeld : Below w2.heap.size w2 w2 := Below.refl _ _
      clear hn
      refine wpAnyH_take (i := 3) (v := ?_) rfl (by kernel_rfl) (by kernel_rfl) (by kernel_rfl) (fun _ _ _ h => h) (Or.inl ⟨by rfl, ?_⟩) (by assumption) ?_
      rotate_left 1
      · intro w hSw; have hq := hcv2.out w hSw; (try dsimp only at hSw); go_simp; try (with_reducible rfl)
      try simp only [Act.put, List.getElem_toArray, List.getElem_cons_zero, List.getElem_cons_succ, List.setIfInBounds_toArray, List.set_cons_zero, List.set_cons_succ]
      refine wpAnyH_ready (rs := [5, 11]) (by kernel_rfl) (by simp) ?_
      refine AllReadyH.cons rfl (fun K hK => ?_) (AllReadyH.cons rfl (fun K hK => ?_) AllReadyH.nil)
      · skip
        go_simp
        obtain ⟨w3, hw3⟩ : ∃ X, X = (World.alloc w2 (.cells #[Value.int .u8 (k : Int)] 5)) := ⟨_, rfl⟩
        have hcvb : Hid (∀ X, Below w3.heap.size w3 X → (convert 23 9 (.slice (some ⟨w2.heap.size, 0, none⟩) 1 1)).run Tryd.prog X = .ok (.string (str (be 1 k))) X) := Lib.hid fun X h => by subst hw3; exact run_str_rd X ((rd_lit _ (be 1 k) #[Value.int .u8 (k : Int)] (bcs_one k hk) (by rw [length_be]; omega)).below h)
        have hn : Below w2.heap.size w2 w3 := by subst hw3; exact hHeld.alloc hHeld.size _
        have Cw3 := Lib.hid (Cw2.out.trans (hn.mono Cw2.out.size))
        rw [← hw3]
        clear hHeld hw3
        refine hK.out _ _ hn (fun _ => ?_)
        clear hK K
        try simp only [Act.put, List.getElem_toArray, List.getElem_cons_zero, List.getElem_cons_succ, List.setIfInBounds_toArray, List.set_cons_zero, List.set_cons_succ]
        refine wpAnyH_more (S' := fun X => Below w3.heap.size w3 X) (fun X h => hn.trans (h.mono hn.size)) _ _ _ _ ?_
        have hHeld : Below w3.heap.size w3 w3 := Below.refl _ _
        clear hn
        refine wpAnyH_take (i := 6) (v := ?_) rfl (by kernel_rfl) (by kernel_rfl) (by kernel_rfl) (fun _ _ _ h => h) (Or.inl ⟨by rfl, ?_⟩) (by assumption) ?_
        rotate_left 1
        · intro w hSw; have hq := hcvb.out w hSw; (try dsimp only at hSw); go_simp; try (with_reducible rfl)
        try simp only [Act.put, List.getElem_toArray, List.getElem_cons_zero, List.getElem_cons_succ, List.setIfInBounds_toArray, List.set_cons_zero, List.set_cons_succ]
        refine wpAnyH_take (i := 7) (v := ?_) rfl (by kernel_rfl) (by kernel_rfl) (by kernel_rfl) (fun _ _ _ h => h) (Or.inl ⟨by rfl, ?_⟩) (by assumption) ?_
        rotate_left 1
        · intro w hSw; (try dsimp only at hSw); go_simp; try (with_reducible rfl)
        try simp only [Act.put, List.getElem_toArray, List.getElem_cons_zero, List.getElem_cons_succ, List.setIfInBounds_toArray, List.set_cons_zero, List.set_cons_succ]
        refine wpAnyH_ready (rs := [11]) (by kernel_rfl) (by simp) ?_
        refine AllReadyH.cons rfl (fun K hK => ?_) AllReadyH.nil
        go_simp
        refine (HN3.out _).mono ?_
        rintro e w4 ⟨v4, rfl, ho, hb⟩
        have hcv4 : Hid (∀ X, Below w4.heap.size w4 X → (convert 23 9 v4).run Tryd.prog X = .ok (.string (str (be 8 n))) X) := Lib.hid fun X h => run_str_own X (ho.below h (Nat.le_refl _))
        have hn : Below w3.heap.size w3 w4 := hHeld.trans (hb.mono hHeld.size)
        have Cw4 := Lib.hid (Cw3.out.trans (hn.mono Cw3.out.size))
        clear ho hb hHeld
        go_wp2_with fail
        refine hK.out _ _ hn (fun _ => ?_)
        clear hK K
        try simp only [Act.put, List.getElem_toArray, List.getElem_cons_zero, List.getElem_cons_succ, List.setIfInBounds_toArray, List.set_cons_zero, List.set_cons_succ]
        refine wpAnyH_more (S' := fun X => Below w4.heap.size w4 X) (fun X h => hn.trans (h.mono hn.size)) _ _ _ _ ?_
        have hHeld : Below w4.heap.size w4 w4 := Below.refl _ _
        clear hn
        refine wpAnyH_take (i := 12) (v := ?_) rfl (by kernel_rfl) (by kernel_rfl) (by kernel_rfl) (fun _ _ _ h => h) (Or.inl ⟨by rfl, ?_⟩) (by assumption) ?_
        rotate_left 1
        · intro w hSw; have hq := hcv4.out w hSw; (try dsimp only at hSw); go_simp; try (with_reducible rfl)
        try simp only [Act.put, List.getElem_toArray, List.getElem_cons_zero, List.getElem_cons_succ, List.setIfInBounds_toArray, List.set_cons_zero, List.set_cons_succ]
        refine wpAnyH_take (i := 13) (v := ?_) rfl (by kernel_rfl) (by kernel_rfl) (by kernel_rfl) (fun _ _ _ h => h) (Or.inl ⟨by rfl, ?_⟩) (by assumption) ?_
        rotate_left 1
        · intro w hSw; (try dsimp only at hSw); go_simp; try (with_reducible rfl)
        try simp only [Act.put, List.getElem_toArray, List.getElem_cons_zero, List.getElem_cons_succ, List.setIfInBounds_toArray, List.set_cons_zero, List.set_cons_succ]
        refine wpAnyH_take (i := 15) (v := ?_) rfl (by kernel_rfl) (by kernel_rfl) (by kernel_rfl) (fun _ _ _ h => h) (Or.inl ⟨by rfl, ?_⟩) (by assumption) ?_
        rotate_left 1
        · intro w hSw; (try dsimp only at hSw); go_simp; try (with_reducible rfl)
        try simp only [Act.put, List.getElem_toArray, List.getElem_cons_zero, List.getElem_cons_succ, List.setIfInBounds_toArray, List.set_cons_zero, List.set_cons_succ]
        refine wpAnyH_take (i := 16) (v := ?_) rfl (by kernel_rfl) (by kernel_rfl) (by kernel_rfl) (fun _ _ _ h => h) (Or.inl ⟨by rfl, ?_⟩) (by assumption) ?_
        rotate_left 1
        · intro w hSw; (try dsimp only at hSw); go_simp; try (with_reducible rfl)
        try simp only [Act.put, List.getElem_toArray, List.getElem_cons_zero, List.getElem_cons_succ, List.setIfInBounds_toArray, List.set_cons_zero, List.set_cons_succ]
        refine wpAnyH_done (by kernel_rfl) ?_ _
        refine HK'.out _ _ ?_
        have hJ := HJ.out
        go_meet
        case rel => exact ⟨by rw [HFIN.out], Cw4⟩
      · skip
        go_simp
        refine (HN3.out _).mono ?_
        rintro e w3 ⟨v3, rfl, ho, hb⟩
        have hcv3 : Hid (∀ X, Below w3.heap.size w3 X → (convert 23 9 v3).run Tryd.prog X = .ok (.string (str (be 8 n))) X) := Lib.hid fun X h => run_str_own X (ho.below h (Nat.le_refl _))
        have hn : Below w2.heap.size w2 w3 := hHeld.trans (hb.mono hHeld.size)
        have Cw3 := Lib.hid (Cw2.out.trans (hn.mono Cw2.out.size))
        clear ho hb hHeld
        go_wp2_with fail
        refine hK.out _ _ hn (fun _ => ?_)
        clear hK K
        try simp only [Act.put, List.getElem_toArray, List.getElem_cons_zero, List.getElem_cons_succ, List.setIfInBounds_toArray, List.set_cons_zero, List.set_cons_succ]
        refine wpAnyH_more (S' := fun X => Below w3.heap.size w3 X) (fun X h => hn.trans (h.mono hn.size)) _ _ _ _ ?_
        have hHeld : Below w3.heap.size w3 w3 := Below.refl _ _
        clear hn
        refine wpAnyH_take (i := 12) (v := ?_) rfl (by kernel_rfl) (by kernel_rfl) (by kernel_rfl) (fun _ _ _ h => h) (Or.inl ⟨by rfl, ?_⟩) (by assumption) ?_
        rotate_left 1
        · intro w hSw; have hq := hcv3.out w hSw; (try dsimp only at hSw); go_simp; try (with_reducible rfl)
        try simp only [Act.put, List.getElem_toArray, List.getElem_cons_zero, List.getElem_cons_succ, List.setIfInBounds_toArray, List.set_cons_zero, List.set_cons_succ]
        refine wpAnyH_ready (rs := [5]) (by kernel_rfl) (by simp) ?_
        refine AllReadyH.cons rfl (fun K hK => ?_) AllReadyH.nil
        go_simp
        obtain ⟨w4, hw4⟩ : ∃ X, X = (World.alloc w3 (.cells #[Value.int .u8 (k : Int)] 5)) := ⟨_, rfl⟩
        have hcvb : Hid (∀ X, Below w4.heap.size w4 X → (convert 23 9 (.slice (some ⟨w3.heap.size, 0, none⟩) 1 1)).run Tryd.prog X = .ok (.string (str (be 1 k))) X) := Lib.hid fun X h => by subst hw4; exact run_str_rd X ((rd_lit _ (be 1 k) #[Value.int .u8 (k : Int)] (bcs_one k hk) (by rw [length_be]; omega)).below h)
        have hn : Below w3.heap.size w3 w4 := by subst hw4; exact hHeld.alloc hHeld.size _
        have Cw4 := Lib.hid (Cw3.out.trans (hn.mono Cw3.out.size))
        rw [← hw4]
        clear hHeld hw4
        refine hK.out _ _ hn (fun _ => ?_)
        clear hK K
        try simp only [Act.put, List.getElem_toArray, List.getElem_cons_zero, List.getElem_cons_succ, List.setIfInBounds_toArray, List.set_cons_zero, List.set_cons_succ]
        refine wpAnyH_more (S' := fun X => Below w4.heap.size w4 X) (fun X h => hn.trans (h.mono hn.size)) _ _ _ _ ?_
        have hHeld : Below w4.heap.size w4 w4 := Below.refl _ _
        clear hn
        refine wpAnyH_take (i := 6) (v := ?_) rfl (by kernel_rfl) (by kernel_rfl) (by kernel_rfl) (fun _ _ _ h => h) (Or.inl ⟨by rfl, ?_⟩) (by assumption) ?_
        rotate_left 1
        · intro w hSw; have hq := hcvb.out w hSw; (try dsimp only at hSw); go_simp; try (with_reducible rfl)
        try simp only [Act.put, List.getElem_toArray, List.getElem_cons_zero, List.getElem_cons_succ, List.setIfInBounds_toArray, List.set_cons_zero, List.set_cons_succ]
        refine wpAnyH_take (i := 7) (v := ?_) rfl (by kernel_rfl) (by kernel_rfl) (by kernel_rfl) (fun _ _ _ h => h) (Or.inl ⟨by rfl, ?_⟩) (by assumption) ?_
        rotate_left 1
        · intro w hSw; (try dsimp only at hSw); go_simp; try (with_reducible rfl)
        try simp only [Act.put, List.getElem_toArray, List.getElem_cons_zero, List.getElem_cons_succ, List.setIfInBounds_toArray, List.set_cons_zero, List.set_cons_succ]
        refine wpAnyH_take (i := 13) (v := ?_) rfl (by kernel_rfl) (by kernel_rfl) (by kernel_rfl) (fun _ _ _ h => h) (Or.inl ⟨by rfl, ?_⟩) (by assumption) ?_
        rotate_left 1
        · intro w hSw; (try dsimp only at hSw); go_simp; try (with_reducible rfl)
        try simp only [Act.put, List.getElem_toArray, List.getElem_cons_zero, List.getElem_cons_succ, List.setIfInBounds_toArray, List.set_cons_zero, List.set_cons_succ]
        refine wpAnyH_take (i := 15) (v := ?_) rfl (by kernel_rfl) (by kernel_rfl) (by kernel_rfl) (fun _ _ _ h => h) (Or.inl ⟨by rfl, ?_⟩) (by assumption) ?_
        rotate_left 1
        · intro w hSw; (try dsimp only at hSw); go_simp; try (with_reducible rfl)
        try simp only [Act.put, List.getElem_toArray, List.getElem_cons_zero, List.getElem_cons_succ, List.setIfInBounds_toArray, List.set_cons_zero, List.set_cons_succ]
        refine wpAnyH_take (i := 16) (v := ?_) rfl (by kernel_rfl) (by kernel_rfl) (by kernel_rfl) (fun _ _ _ h => h) (Or.inl ⟨by rfl, ?_⟩) (by assumption) ?_
        rotate_left 1
        · intro w hSw; (try dsimp only at hSw); go_simp; try (with_reducible rfl)
        try simp only [Act.put, List.getElem_toArray, List.getElem_cons_zero, List.getElem_cons_succ, List.setIfInBounds_toArray, List.set_cons_zero, List.set_cons_succ]
        refine wpAnyH_done (by kernel_rfl) ?_ _
        refine HK'.out _ _ ?_
        have hJ := HJ.out
        go_meet
        case rel => exact ⟨by rw [HFIN.out], Cw4⟩
    · skip
      go_simp
      obtain ⟨w2, hw2⟩ : ∃ X, X = (World.alloc w1 (.cells #[Value.int .u8 (k : Int)] 5)).drew := ⟨_, rfl⟩
      have hcvb : Hid (∀ X, Below w2.heap.size w2 X → (convert 23 9 (.slice (some ⟨w1.heap.size, 0, none⟩) 1 1)).run Tryd.prog X = .ok (.string (str (be 1 k))) X) := Lib.hid fun X h => by subst hw2; exact run_str_rd X ((rd_lit _ (be 1 k) #[Value.int .u8 (k : Int)] (bcs_one k hk) (by rw [length_be]; omega)).below (((Below.refl _ _).drew).trans h))
      have hn : Below w1.heap.size w1 w2 := by subst hw2; exact (((Below.refl _ _).alloc (Nat.le_refl _) _).drew)
      have Cw2 := Lib.hid (Cw1.out.trans (hn.mono Cw1.out.size))
      rw [← hw2]
      clear hHeld hw2
      refine hK.out _ _ hn (fun _ => ?_)
      clear hK K
      try simp only [Act.put, List.getElem_toArray, List.getElem_cons_zero, List.getElem_cons_succ, List.setIfInBounds_toArray, List.set_cons_zero, List.set_cons_succ]
      refine wpAnyH_more (S' := fun X => Below w2.heap.size w2 X) (fun X h => hn.trans (h.mono hn.size)) _ _ _ _ ?_
      have hHeld : Below w2.heap.size w2 w2 := Below.refl _ _
      clear hn
      refine wpAnyH_take (i := 6) (v := ?_) rfl (by kernel_rfl) (by kernel_rfl) (by kernel_rfl) (fun _ _ _ h => h) (Or.inl ⟨by rfl, ?_⟩) (by assumption) ?_
      rotate_left 1
      · intro w hSw; have hq := hcvb.out w hSw; (try dsimp only at hSw); go_simp; try (with_reducible rfl)
      try simp only [Act.put, List.getElem_toArray, List.getElem_cons_zero, List.getElem_cons_succ, List.setIfInBounds_toArray, List.set_cons_zero, List.set_cons_succ]
      refine wpAnyH_ready (rs := [2]) (by kernel_rfl) (by simp) ?_
      refine AllReadyH.cons rfl (fun K hK => ?_) AllReadyH.nil
      go_simp
      refine (HN2.out _).mono ?_
      rintro e w3 ⟨v3, rfl, ho, hb⟩
      have hcv3 : Hid (∀ X, Below w3.heap.size w3 X → (convert 23 9 v3).run Tryd.prog X = .ok (.string (str (be 8 a))) X) := Lib.hid fun X h => run_str_own X (ho.below h (Nat.le_refl _))
      have hn : Below w2.heap.size w2 w3 := hHeld.trans (hb.mono hHeld.size)
      have Cw3 := Lib.hid (Cw2.out.trans (hn.mono Cw2.out.size))
      clear ho hb hHeld
      go_wp2_with fail
      refine hK.out _ _ hn (fun _ => ?_)
      clear hK K
      try simp only [Act.put, List.getElem_toArray, List.getElem_cons_zero, List.getElem_cons_succ, List.setIfInBounds_toArray, List.set_cons_zero, List.set_cons_succ]
      refine wpAnyH_more (S' := fun X => Below w3.heap.size w3 X) (fun X h => hn.trans (h.mono hn.size)) _ _ _ _ ?_
      have hHeld : Below w3.heap.size w3 w3 := Below.refl _ _
      clear hn
      refine wpAnyH_take (i := 3) (v := ?_) rfl (by kernel_rfl) (by kernel_rfl) (by kernel_rfl) (fun _ _ _ h => h) (Or.inl ⟨by rfl, ?_⟩) (by assumption) ?_
      rotate_left 1
      · intro w hSw; have hq := hcv3.out w hSw; (try dsimp only at hSw); go_simp; try (with_reducible rfl)
      try simp only [Act.put, List.getElem_toArray, List.getElem_cons_zero, List.getElem_cons_succ, List.setIfInBounds_toArray, List.set_cons_zero, List.set_cons_succ]
      refine wpAnyH_take (i := 7) (v := ?_) rfl (by kernel_rfl) (by kernel_rfl) (by kernel_rfl) (fun _ _ _ h => h) (Or.inl ⟨by rfl, ?_⟩) (by assumption) ?_
      rotate_left 1
      · intro w hSw; (try dsimp only at hSw); go_simp; try (with_reducible rfl)
      try simp only [Act.put, List.getElem_toArray, List.getElem_cons_zero, List.getElem_cons_succ, List.setIfInBounds_toArray, List.set_cons_zero, List.set_cons_succ]
      refine wpAnyH_ready (rs := [11]) (by kernel_rfl) (by simp) ?_
      refine AllReadyH.cons rfl (fun K hK => ?_) AllReadyH.nil
      go_simp
      refine (HN3.out _).mono ?_
      rintro e w4 ⟨v4, rfl, ho, hb⟩
      have hcv4 : Hid (∀ X, Below w4.heap.size w4 X → (convert 23 9 v4).run Tryd.prog X = .ok (.string (str (be 8 n))) X) := Lib.hid fun X h => run_str_own X (ho.below h (Nat.le_refl _))
      have hn : Below w3.heap.size w3 w4 := hHeld.trans (hb.mono hHeld.size)
      have Cw4 := Lib.hid (Cw3.out.trans (hn.mono Cw3.out.size))
      clear ho hb hHeld
      go_wp2_with fail
      refine hK.out _ _ hn (fun _ => ?_)
      clear hK K
      try simp only [Act.put, List.getElem_toArray, List.getElem_cons_zero, List.getElem_cons_succ, List.setIfInBounds_toArray, List.set_cons_zero, List.set_cons_succ]
      refine wpAnyH_more (S' := fun X => Below w4.heap.size w4 X) (fun X h => hn.trans (h.mono hn.size)) _ _ _ _ ?_
      have hHeld : Below w4.heap.size w4 w4 := Below.refl _ _
      clear hn
      refine wpAnyH_take (i := 12) (v := ?_) rfl (by kernel_rfl) (by kernel_rfl) (by kernel_rfl) (fun _ _ _ h => h) (Or.inl ⟨by rfl, ?_⟩) (by assumption) ?_
      rotate_left 1
      · intro w hSw; have hq := hcv4.out w hSw; (try dsimp only at hSw); go_simp; try (with_reducible rfl)
      try simp only [Act.put, List.getElem_toArray, List.getElem_cons_zero, List.getElem_cons_succ, List.setIfInBounds_toArray, List.set_cons_zero, List.set_cons_succ]
      refine wpAnyH_take (i := 13) (v := ?_) rfl (by kernel_rfl) (by kernel_rfl) (by kernel_rfl) (fun _ _ _ h => h) (Or.inl ⟨by rfl, ?_⟩) (by assumption) ?_
      rotate_left 1
      · intro w hSw; (try dsimp only at hSw); go_simp; try (with_reducible rfl)
      try simp only [Act.put, List.getElem_toArray, List.getElem_cons_zero, List.getElem_cons_succ, List.setIfInBounds_toArray, List.set_cons_zero, List.set_cons_succ]
      refine wpAnyH_take (i := 15) (v := ?_) rfl (by kernel_rfl) (by kernel_rfl) (by kernel_rfl) (fun _ _ _ h => h) (Or.inl ⟨by rfl, ?_⟩) (by assumption) ?_
      rotate_left 1
      · intro w hSw; (try dsimp only at hSw); go_simp; try (with_reducible rfl)
      try simp only [Act.put, List.getElem_toArray, List.getElem_cons_zero, List.getElem_cons_succ, List.setIfInBounds_toArray, List.set_cons_zero, List.set_cons_succ]
      refine wpAnyH_take (i := 16) (v := ?_) rfl (by kernel_rfl) (by kernel_rfl) (by kernel_rfl) (fun _ _ _ h => h) (Or.inl ⟨by rfl, ?_⟩) (by assumption) ?_
      rotate_left 1
      · intro w hSw; (try dsimp only at hSw); go_simp; try (with_reducible rfl)
      try simp only [Act.put, List.getElem_toArray, List.getElem_cons_zero, List.getElem_cons_succ, List.setIfInBounds_toArray, List.set_cons_zero, List.set_cons_succ]
      refine wpAnyH_done (by kernel_rfl) ?_ _
      refine HK'.out _ _ ?_
      have hJ := HJ.out
      go_meet
      case rel => exact ⟨by rw [HFIN.out], Cw4⟩
  case rest =>
    obtain ⟨rfl, hBc⟩ := hcut
    have BC := Lib.hid hBc.out
    clear hBc k1 hsz hw1 hw2
    obtain ⟨IN, hIN⟩ : ∃ l, Frm.head a k n ++ b = l := ⟨_, rfl⟩
    obtain ⟨q, hq⟩ : ∃ q, q = 17 + n := ⟨_, rfl⟩
    obtain ⟨r, hr⟩ : ∃ r, r = 4011 - n := ⟨_, rfl⟩
    obtain ⟨D, hD⟩ : ∃ l, Frm.data a k b = l := ⟨_, rfl⟩
    obtain ⟨S, hS⟩ : ∃ l, be 8 s = l := ⟨_, rfl⟩
    obtain ⟨m, hm⟩ : ∃ m, Crc.check (S ++ D) = m := ⟨_, rfl⟩
    obtain ⟨I, hI⟩ : ∃ l, D ++ pl m = l := ⟨_, rfl⟩
    have lIN : IN.length = q := by rw [← hIN, List.length_append, Frm.length_head, HBN.out, hq]
    have lD : D.length = 4028 := by rw [← hD]; exact Frm.length_data a k b (by rw [HBN.out]; exact hn)
    have lS : S.length = 8 := by rw [← hS]; exact length_be 8 s
    have lI : I.length = 4032 := by rw [← hI, List.length_append, lD, Frm.length_pl]
    have hm2 : m < 4294967296 := by rw [← hm]; exact Crc.check_lt _
    have eD : IN ++ zeros r = D := by rw [← hIN, ← hD, Frm.data, HBN.out, hr, zeros, List.append_assoc]
    have eI : Frm.inside a k s b = I := by rw [Frm.inside, hD, hS, hm, hI]
    have eF : Frm.frame a k s b = Frm.pageTo S I 8 := by rw [Frm.frame, eI, hS]
    rw [hIN, hS]
    have HF := Lib.hid eF
    obtain ⟨C, hC⟩ : ∃ C, bcs (zeros r) = C := ⟨_, rfl⟩
    have hsz : (str IN).size = q := (str_size IN).trans lIN
    have hq28 : (q : Int) ≤ 4028 := by omega
    have hmk : ∀ W, (Instr.makeSlice 23 (.int .i64 (4028 - (q : Int))) (.int .i64 (4028 - (q : Int)))).run Tryd.prog W = .ok (.slice (some ⟨W.heap.size, 0, none⟩) r r) (W.alloc (.cells C 5)) := by
      rw [show 4028 - (q : Int) = (r : Int) by omega]
      exact make_zn r (by omega) C hC
    have kz : ∀ W : World, (convert 23 9 (.slice (some ⟨W.heap.size, 0, none⟩) r r)).run Tryd.prog (W.alloc (.cells C 5)) = .ok (.string (str (zeros r))) (W.alloc (.cells C 5)) := fun W => conv_row W (zeros r) C hC.symm r List.length_replicate (by omega)
    have a1 : ∀ W, (Op.stringOp .add (str IN) (str (zeros r))).run Tryd.prog W = .ok (.string (str D)) W := fun W => by
      have := str_add W IN (zeros r) (by rw [lIN, zeros, List.length_replicate]; omega)
      rwa [eD] at this
    have a2 : ∀ W, (Op.stringOp .add (str S) (str D)).run Tryd.prog W = .ok (.string (str (S ++ D))) W := fun W => str_add W S D (by rw [lS, lD]; omega)
    obtain ⟨c2, W2, kb, hrb, hbb⟩ := to_bytes (S ++ D) (wc.alloc (.cells C 5)) 4036 (by rw [List.length_append, lS, lD]) (by omega)
    have hcells : #[Value.int .u8 ((m : Int) % 256), .int .u8 ((m : Int) / 256 % 256), .int .u8 ((m : Int) / 65536 % 256), .int .u8 ((m : Int) / 16777216)] = bcs (pl m) := bcs_pl m hm2
    have kp : ∀ W : World, (convert 23 9 (.slice (some ⟨W.heap.size, 0, none⟩) 4 4)).run Tryd.prog (W.alloc (.cells #[Value.int .u8 ((m : Int) % 256), .int .u8 ((m : Int) / 256 % 256), .int .u8 ((m : Int) / 65536 % 256), .int .u8 ((m : Int) / 16777216)] 5)) = .ok (.string (str (pl m))) (W.alloc (.cells #[Value.int .u8 ((m : Int) % 256), .int .u8 ((m : Int) / 256 % 256), .int .u8 ((m : Int) / 65536 % 256), .int .u8 ((m : Int) / 16777216)] 5)) := fun W => conv_row W (pl m) _ hcells 4 rfl (by omega)
    have a3 : ∀ W, (Op.stringOp .add (str D) (str (pl m))).run Tryd.prog W = .ok (.string (str I)) W := fun W => by
      have := str_add W D (pl m) (by rw [lD, Frm.length_pl]; omega)
      rwa [hI] at this
    have KREF : Hid (∀ W : World, W = W2 → Calls Tryd.prog 21 #[.slice (some ⟨wc.heap.size + 1, 0, none⟩) 4036 c2] W fun e w' => e = .returned (.int .u32 (m : Int)) ∧ W = w') := Lib.hid fun W e => by
      subst e
      rw [size_alloc'] at hrb
      have h := ref_any _ c2 (S ++ D) W hrb
      rw [hm, show (S ++ D).length = 4036 by rw [List.length_append, lS, lD]] at h
      exact h
    have B2 := Lib.hid (BC.out.trans ((((Below.refl _ wc).alloc (Nat.le_refl _) (.cells C 5)).trans (hbb.mono (by rw [size_alloc']; omega))).mono BC.out.size))
    have LI := Lib.hid lI
    have LS := Lib.hid lS
    clear hcells hrb hbb hIN hq hr hD hS hm hI eD eI eF lIN lD lI lS hC
    rw [size_alloc'] at kb
    go_wp2_with (go_at_call 21; refine (KREF.out _ rfl).mono ?_; rintro e w5 ⟨rfl, rfl⟩)
    go_loop [12, 13] (fun o i => ∃ j : Nat, j ≤ 8 ∧ i = .int .i64 j ∧ o = .string (str (Frm.pageTo S I j))) (fun _ i => 8 - (intOf i).toNat)
    case atStart => exact ⟨0, by omega, rfl, rfl⟩
    case round =>
      obtain ⟨j, hj, rfl, rfl⟩ := hrel
      by_cases hlt : j < 8
      · obtain ⟨p, hp⟩ : ∃ p, p = 504 * j := ⟨_, rfl⟩
        have s1 := run_scut I j p LI.out hlt hp
        have e1 : 504 * (j : Int) = (p : Int) := by omega
        have hp1 : p ≤ 4032 := by omega
        have lP := Frm.length_pageTo S I j LS.out (by rw [LI.out]; omega)
        have lG := Frm.length_seg I j (by rw [LI.out]; omega)
        obtain ⟨P, hP⟩ : ∃ P, Frm.pageTo S I j = P := ⟨_, rfl⟩
        obtain ⟨G, hG⟩ : ∃ G, Frm.seg I j = G := ⟨_, rfl⟩
        have HP2 : Hid (Frm.pageTo S I (j + 1) = P ++ (S ++ G)) := Lib.hid (by rw [Frm.pageTo, hP, hG])
        rw [hP] at lP ⊢
        rw [hG] at lG s1
        have a4 : ∀ W, (Op.stringOp .add (str P) (str S)).run Tryd.prog W = .ok (.string (str (P ++ S))) W := fun W => str_add W P S (by rw [lP, LS.out]; omega)
        have a5 : ∀ W, (Op.stringOp .add (str (P ++ S)) (str G)).run Tryd.prog W = .ok (.string (str (P ++ (S ++ G)))) W := fun W => by
          have := str_add W (P ++ S) G (by rw [List.length_append, lP, LS.out, lG]; omega)
          rwa [List.append_assoc] at this
        clear hp hP hG lP lG
        go_wp2_with fail
        go_round
        case rel => exact ⟨j + 1, by omega, by go_num, by rw [HP2.out]⟩
        case measure => simp [intOf]; omega
      · obtain rfl : j = 8 := by omega
        go_wp2_with fail
        go_ret
        exact ⟨by rw [HF.out]; rfl, B2.out.alloc B2.out.size _⟩
end Go.Proofs.YtmekdodkpimabaaDoor
