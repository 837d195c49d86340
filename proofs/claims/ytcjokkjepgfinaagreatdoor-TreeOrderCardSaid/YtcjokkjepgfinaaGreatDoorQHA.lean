import Derived.Test.YtcjokkjepgfinaaGreatDoorQH8
import Derived.Deep.RegionHeld3
set_option linter.unusedVariables false
set_option linter.unusedSimpArgs false
namespace Go.Proofs.YtcjokkjepgfinaaGreatDoor.Tr
set_option maxRecDepth 8000
open Go.RowKit Mem Sk
open Dk (Fr)
section
variable {w w' : World} {F G : Nat → Prop} {N : Nat} {v : Value}
theorem may_bel {w0 : World} (hb : Below w0.heap.size w0 w) (A1 A2 : Option Addr) (c1 c2 : Nat) (q : Option Addr) (k : Nat) (x : It) (h : may k x = true) :
    Calls Tryz.prog 133 #[.agg #[.slice A1 x.1.length c1, .slice A2 x.2.length c2, .pointer q], .int .i64 (k : Int)] w fun e w' => e = .returned (.bool true) ∧ Below w0.heap.size w0 w' ∧ Below w.heap.size w w' := by
  refine (may_any A1 A2 c1 c2 q k x h w).mono ?_
  rintro e w' ⟨rfl, h2⟩
  exact ⟨rfl, hb.trans (h2.mono hb.size), h2⟩
theorem RdF.rdd {l : By} {A : Option Addr} {n c : Nat} (h : RdF w F (.slice A n c) l) : Rd w w.heap.size A c l := by
  obtain ⟨A', c', e, hr⟩ := h.rd
  injection e with e1 _ e3
  subst e1 e3
  exact hr
theorem hasS_bel {w0 : World} (hb : Below w0.heap.size w0 w) {A1 A2 A3 : Option Addr} {n1 n2 n3 c1 c2 c3 : Nat} {fr tu key : By} (h1 : RdF w0 F (.slice A1 n1 c1) fr) (h2 : RdF w0 F (.slice A2 n2 c2) tu) (h3 : RdF w0 F (.slice A3 n3 c3) key) :
    Calls Tryz.prog 72 #[.agg #[.slice A1 n1 c1, .slice A2 n2 c2], .slice A3 n3 c3] w fun e w' => e = .returned (.bool (inS fr tu key)) ∧ Below w0.heap.size w0 w' ∧ Below w.heap.size w w' := by
  have e1 : n1 = fr.length := by obtain ⟨_, _, e, _⟩ := h1; injection e
  have e2 : n2 = tu.length := by obtain ⟨_, _, e, _⟩ := h2; injection e
  have e3 : n3 = key.length := by obtain ⟨_, _, e, _⟩ := h3; injection e
  subst e1 e2 e3
  refine (has_span (h1.kf (kfb hb)).rdd (h2.kf (kfb hb)).rdd (h3.kf (kfb hb)).rdd).mono ?_
  rintro e w' ⟨rfl, h⟩
  exact ⟨rfl, hb.trans (h.mono hb.size), h⟩
theorem its_get {k : Nat} (l : Its k) (i : Nat) (h : i < (its l).length) : (its l)[i] = it (l[i]'(by rw [← its_length]; exact h)) := List.getElem_map it
structure RightL (k : Nat) (lo hi : By) (li : List It) : Prop where
  pos : 0 < li.length
  may : ∀ i (h : i < li.length), may k li[i] = true
  has : ∀ i (h : i < li.length), inS lo hi li[i].1 = true
  ord : ∀ i (h : i + 1 < li.length), blt (li[i]'(by omega)).1 li[i + 1].1 = true
  two : 0 < k → 1 < li.length ∧ ∀ h : 0 < li.length, li[0].1 = lo
theorem Right.lst {k : Nat} {lo hi : By} {l : Its k} (hr : Right k lo hi l) : RightL k lo hi (its l) :=
  ⟨by rw [its_length]; exact List.length_pos_iff.2 hr.ne, fun i h => by rw [its_get]; exact hr.may _ (List.getElem_mem _), fun i h => by rw [its_get]; exact hr.has _ (List.getElem_mem _),
   fun i h => by
    rw [its_get, its_get]
    have h2 := h
    rw [its_length] at h2
    exact List.pairwise_iff_getElem.1 hr.ord i (i + 1) (by omega) h2 (by omega),
   fun h0 => ⟨by rw [its_length]; exact (hr.two h0).1, fun h => by rw [its_get]; exact (hr.two h0).2 _ (List.getElem?_eq_getElem _)⟩⟩
set_option maxHeartbeats 8000000 in
theorem right_any {p : Int} {k : Nat} {A1 A2 : Option Addr} {c1 c2 : Nat} {lo hi : By} {li : List It} (h : KR w F N v li) (h1 : RdF w F (.slice A1 lo.length c1) lo) (h2 : RdF w F (.slice A2 hi.length c2) hi) (hr : RightL k lo hi li) (hs : isum li ≤ 1000000000) :
    Calls Tryz.prog 101 #[.agg #[.int .i64 p, .int .i64 (k : Int), .slice A1 lo.length c1, .slice A2 hi.length c2, v]] w fun e w' => e = .returned (.bool true) ∧ Below w.heap.size w w' := by
  obtain ⟨A, c, rfl, _, _⟩ := h.form
  have hlen : li.length ≤ 1000000000 := by have := len_le_isum li; omega
  have H := Lib.hid h
  have H1 := Lib.hid h1
  have H2 := Lib.hid h2
  have HR := Lib.hid hr
  have HLEN := Lib.hid hlen
  obtain ⟨W, hW⟩ : ∃ W, W = w.alloc (.cells #[.int .i64 p, .int .i64 (k : Int), .slice A1 lo.length c1, .slice A2 hi.length c2, .slice A li.length c] 75) := ⟨_, rfl⟩
  have B0 := Lib.hid (show Below w.heap.size w W from hW ▸ box1 w _)
  have R0 := Lib.hid (show VN W w.heap.size [.int .i64 p, .int .i64 (k : Int), .slice A1 lo.length c1, .slice A2 hi.length c2, .slice A li.length c] from hW ▸ VN.new w _ _)
  have HW := Lib.hid hW
  have hcap : (li.length : Int) ≤ 9223372036854775807 := by omega
  have he : (((li.length : Nat) : Int) == 0) = false := beq_eq_false_iff_ne.2 (by have := hr.pos; omega)
  clear h h1 h2 hr hlen hW
  go_enter Tryz.func101, Tryz.ntmps101
  go_wp2_with fail
  rw [← HW.out]
  go_loopw [12] (fun v wr => ∃ j : Nat, j ≤ li.length ∧ v = .int .i64 j ∧ Below w.heap.size w wr ∧ VN wr w.heap.size [.int .i64 p, .int .i64 (k : Int), .slice A1 lo.length c1, .slice A2 hi.length c2, .slice A li.length c]) (fun v _ => li.length - (intOf v).toNat)
  case atStart => exact ⟨0, Nat.zero_le _, rfl, B0.out, R0.out⟩
  case round =>
    obtain ⟨j, hj, rfl, hb, hv⟩ := hrel
    by_cases hlt : j < li.length
    · obtain ⟨b, o, Ak, ck, Ar, cr, q, rfl, g1, g2, g3, -, -, r1, -⟩ := H.out.at hlt
      have g1 := cell_bel hb g1
      have g2 := cell_bel hb g2
      have g3 := cell_bel hb g3
      have hji : (j : Int) < (li.length : Int) := by omega
      obtain ⟨Wi, hWi⟩ : ∃ W, W = wr.alloc (.cells #[.slice Ak li[j].1.length ck, .slice Ar li[j].2.length cr, .pointer q] 80) := ⟨_, rfl⟩
      have di : Below wr.heap.size wr Wi := hWi ▸ box1 wr _
      have T0 := hWi ▸ VN.new wr #[.slice Ak li[j].1.length ck, .slice Ar li[j].2.length cr, .pointer q] 80
      have V0 := hv.bel di
      have K0 := Lib.hid (hb.trans (di.mono hb.size))
      have VN0 := Lib.hid V0
      have HWi := Lib.hid hWi
      have HMY := Lib.hid (HR.out.may j hlt)
      have HHS := Lib.hid (HR.out.has j hlt)
      have R1 := Lib.hid r1
      by_cases hj0 : 0 < j
      · obtain ⟨b', o', Ap, cp, _, _, _, e, p1, -, -, -, -, rp, -⟩ := H.out.at (i := j - 1) (by omega)
        injection e with e; injection e with e1 e2; subst e1 e2
        have p1 := cell_bel (hb.trans (di.mono hb.size)) p1
        have hj1 : (0 : Int) < (j : Int) := by omega
        have hjw : IntKind.i64.wrap ((j : Int) - 1) = (j : Int) - 1 := by have := HLEN.out; rw [IntKind.wrap_i64]; omega
        have hj2 : (0 : Int) ≤ (j : Int) - 1 := by omega
        have hj5 : (1 : Int) ≤ (j : Int) := by omega
        have hj3 : (j : Int) - 1 < (li.length : Int) := by omega
        have hj4 : ((j : Int) - 1).toNat = j - 1 := by omega
        have hcp : cmpB (li[j - 1]'(by omega)).1 li[j].1 < 0 := (cmp_lt _ _).2 (by have := HR.out.ord (j - 1) (by omega); simpa [Nat.sub_add_cancel hj0] using this)
        have hcd : decide ((0 : Int) ≤ cmpB (li[j - 1]'(by omega)).1 li[j].1) = false := decide_eq_false (by omega)
        have R0p := Lib.hid rp
        have HF0 := Lib.hid (⟨T0.c 0 _ rfl, T0.c 1 _ rfl, T0.c 2 _ rfl, V0.c 1 _ rfl, V0.c 2 _ rfl, V0.c 3 _ rfl, V0.c 4 _ rfl, p1⟩ : _ ∧ _ ∧ _ ∧ _ ∧ _ ∧ _ ∧ _ ∧ _)
        clear hWi di hb hv T0 V0 r1 rp p1 hcp
        go_wp2_with fail
        rw [← HWi.out]
        obtain ⟨V, hV⟩ : ∃ V, V = Wi := ⟨_, rfl⟩
        have HV0 := Lib.hid (show Below V.heap.size V Wi.drew from hV ▸ (Below.refl _ _).drew)
        have HF := Lib.hid (fun X (h : Below V.heap.size V X) => (⟨cell_bel h (hV ▸ HF0.out.1), cell_bel h (hV ▸ HF0.out.2.1), cell_bel h (hV ▸ HF0.out.2.2.1), cell_bel h (hV ▸ HF0.out.2.2.2.1), cell_bel h (hV ▸ HF0.out.2.2.2.2.1), cell_bel h (hV ▸ HF0.out.2.2.2.2.2.1), cell_bel h (hV ▸ HF0.out.2.2.2.2.2.2.1), cell_bel h (hV ▸ HF0.out.2.2.2.2.2.2.2)⟩ : _ ∧ _ ∧ _ ∧ _ ∧ _ ∧ _ ∧ _ ∧ _))
        have HK0 := Lib.hid (show Below w.heap.size w V from hV ▸ K0.out)
        have HVN := Lib.hid (show VN V w.heap.size [.int .i64 p, .int .i64 (k : Int), .slice A1 lo.length c1, .slice A2 hi.length c2, .slice (some ⟨b, o, none⟩) li.length c] from hV ▸ VN0.out)
        clear HF0 hV
        refine wp_region_held_drew (S := fun X => Below V.heap.size V X) (by kernel_rfl) HV0.out (fun hHeld => ?_)
        refine wpAnyH_take (i := 0) (v := ?_) rfl (by kernel_rfl) (by kernel_rfl) (by kernel_rfl) (fun _ _ _ h => h) (Or.inl ⟨by rfl, ?_⟩) (by assumption) ?_
        rotate_left 1
        · intro wS hSw; obtain ⟨f1, f2, f3, f4, f5, f6, f7, f8⟩ := HF.out wS hSw; go_simp; try (with_reducible rfl)
        try simp only [Act.put, List.getElem_toArray, List.getElem_cons_zero, List.getElem_cons_succ, List.setIfInBounds_toArray, List.set_cons_zero, List.set_cons_succ]
        refine wpAnyH_take (i := 1) (v := ?_) rfl (by kernel_rfl) (by kernel_rfl) (by kernel_rfl) (fun _ _ _ h => h) (Or.inl ⟨by rfl, ?_⟩) (by assumption) ?_
        rotate_left 1
        · intro wS hSw; obtain ⟨f1, f2, f3, f4, f5, f6, f7, f8⟩ := HF.out wS hSw; go_simp; try (with_reducible rfl)
        try simp only [Act.put, List.getElem_toArray, List.getElem_cons_zero, List.getElem_cons_succ, List.setIfInBounds_toArray, List.set_cons_zero, List.set_cons_succ]
        refine wpAnyH_take (i := 2) (v := ?_) rfl (by kernel_rfl) (by kernel_rfl) (by kernel_rfl) (fun _ _ _ h => h) (Or.inl ⟨by rfl, ?_⟩) (by assumption) ?_
        rotate_left 1
        · intro wS hSw; obtain ⟨f1, f2, f3, f4, f5, f6, f7, f8⟩ := HF.out wS hSw; go_simp; try (with_reducible rfl)
        try simp only [Act.put, List.getElem_toArray, List.getElem_cons_zero, List.getElem_cons_succ, List.setIfInBounds_toArray, List.set_cons_zero, List.set_cons_succ]
        refine wpAnyH_ready (rs := [3]) (by kernel_rfl) (by simp) ?_
        refine AllReadyH.cons rfl (fun K hK => ?_) AllReadyH.nil
        go_simp
        refine (may_bel (HK0.out.trans (hHeld.mono HK0.out.size)) Ak Ar ck cr q k li[j] HMY.out).mono ?_
        rintro e w2 ⟨rfl, h1, h2⟩
        have hn := hHeld.trans (h2.mono hHeld.size)
        have K1 := Lib.hid h1
        clear h1 h2 hHeld
        go_wp2_with fail
        refine hK.out _ _ hn (fun hHeld => ?_)
        clear hK K
        try simp only [Act.put, List.getElem_toArray, List.getElem_cons_zero, List.getElem_cons_succ, List.setIfInBounds_toArray, List.set_cons_zero, List.set_cons_succ]
        refine wpAnyH_take (i := 4) (v := ?_) rfl (by kernel_rfl) (by kernel_rfl) (by kernel_rfl) (fun _ _ _ h => h) (Or.inl ⟨by rfl, ?_⟩) (by assumption) ?_
        rotate_left 1
        · intro wS hSw; obtain ⟨f1, f2, f3, f4, f5, f6, f7, f8⟩ := HF.out wS hSw; go_simp; try (with_reducible rfl)
        try simp only [Act.put, List.getElem_toArray, List.getElem_cons_zero, List.getElem_cons_succ, List.setIfInBounds_toArray, List.set_cons_zero, List.set_cons_succ]
        refine wpAnyH_take (i := 5) (v := ?_) rfl (by kernel_rfl) (by kernel_rfl) (by kernel_rfl) (fun _ _ _ h => h) (Or.inl ⟨by rfl, ?_⟩) (by assumption) ?_
        rotate_left 1
        · intro wS hSw; obtain ⟨f1, f2, f3, f4, f5, f6, f7, f8⟩ := HF.out wS hSw; go_simp; try (with_reducible rfl)
        try simp only [Act.put, List.getElem_toArray, List.getElem_cons_zero, List.getElem_cons_succ, List.setIfInBounds_toArray, List.set_cons_zero, List.set_cons_succ]
        refine wpAnyH_take (i := 6) (v := ?_) rfl (by kernel_rfl) (by kernel_rfl) (by kernel_rfl) (fun _ _ _ h => h) (Or.inl ⟨by rfl, ?_⟩) (by assumption) ?_
        rotate_left 1
        · intro wS hSw; obtain ⟨f1, f2, f3, f4, f5, f6, f7, f8⟩ := HF.out wS hSw; go_simp; try (with_reducible rfl)
        try simp only [Act.put, List.getElem_toArray, List.getElem_cons_zero, List.getElem_cons_succ, List.setIfInBounds_toArray, List.set_cons_zero, List.set_cons_succ]
        refine wpAnyH_take (i := 7) (v := ?_) rfl (by kernel_rfl) (by kernel_rfl) (by kernel_rfl) (fun _ _ _ h => h) (Or.inl ⟨by rfl, ?_⟩) (by assumption) ?_
        rotate_left 1
        · intro wS hSw; obtain ⟨f1, f2, f3, f4, f5, f6, f7, f8⟩ := HF.out wS hSw; go_simp; try (with_reducible rfl)
        try simp only [Act.put, List.getElem_toArray, List.getElem_cons_zero, List.getElem_cons_succ, List.setIfInBounds_toArray, List.set_cons_zero, List.set_cons_succ]
        refine wpAnyH_take (i := 8) (v := ?_) rfl (by kernel_rfl) (by kernel_rfl) (by kernel_rfl) (fun _ _ _ h => h) (Or.inl ⟨by rfl, ?_⟩) (by assumption) ?_
        rotate_left 1
        · intro wS hSw; obtain ⟨f1, f2, f3, f4, f5, f6, f7, f8⟩ := HF.out wS hSw; go_simp; try (with_reducible rfl)
        try simp only [Act.put, List.getElem_toArray, List.getElem_cons_zero, List.getElem_cons_succ, List.setIfInBounds_toArray, List.set_cons_zero, List.set_cons_succ]
        refine wpAnyH_take (i := 9) (v := ?_) rfl (by kernel_rfl) (by kernel_rfl) (by kernel_rfl) (fun _ _ _ h => h) (Or.inl ⟨by rfl, ?_⟩) (by assumption) ?_
        rotate_left 1
        · intro wS hSw; obtain ⟨f1, f2, f3, f4, f5, f6, f7, f8⟩ := HF.out wS hSw; go_simp; try (with_reducible rfl)
        try simp only [Act.put, List.getElem_toArray, List.getElem_cons_zero, List.getElem_cons_succ, List.setIfInBounds_toArray, List.set_cons_zero, List.set_cons_succ]
        refine wpAnyH_ready (rs := [10]) (by kernel_rfl) (by simp) ?_
        refine AllReadyH.cons rfl (fun K hK => ?_) AllReadyH.nil
        go_simp
        refine (hasS_bel K1.out H1.out H2.out R1.out).mono ?_
        rintro e w3 ⟨rfl, h1, h2⟩
        rw [HHS.out]
        have hn3 := hHeld.trans (h2.mono hHeld.size)
        have K2 := Lib.hid h1
        clear h1 h2 hHeld
        go_wp2_with fail
        refine hK.out _ _ hn3 (fun hHeld => ?_)
        clear hK K
        try simp only [Act.put, List.getElem_toArray, List.getElem_cons_zero, List.getElem_cons_succ, List.setIfInBounds_toArray, List.set_cons_zero, List.set_cons_succ]
        refine wpAnyH_take (i := 11) (v := ?_) rfl (by kernel_rfl) (by kernel_rfl) (by kernel_rfl) (fun _ _ _ h => h) (Or.inl ⟨by rfl, ?_⟩) (by assumption) ?_
        rotate_left 1
        · intro wS hSw; obtain ⟨f1, f2, f3, f4, f5, f6, f7, f8⟩ := HF.out wS hSw; go_simp; try (with_reducible rfl)
        try simp only [Act.put, List.getElem_toArray, List.getElem_cons_zero, List.getElem_cons_succ, List.setIfInBounds_toArray, List.set_cons_zero, List.set_cons_succ]
        refine wpAnyH_take (i := 12) (v := ?_) rfl (by kernel_rfl) (by kernel_rfl) (by kernel_rfl) (fun _ _ _ h => h) (Or.inl ⟨by rfl, ?_⟩) (by assumption) ?_
        rotate_left 1
        · intro wS hSw; obtain ⟨f1, f2, f3, f4, f5, f6, f7, f8⟩ := HF.out wS hSw; go_simp; try (with_reducible rfl)
        try simp only [Act.put, List.getElem_toArray, List.getElem_cons_zero, List.getElem_cons_succ, List.setIfInBounds_toArray, List.set_cons_zero, List.set_cons_succ]
        refine wpAnyH_take (i := 13) (v := ?_) rfl (by kernel_rfl) (by kernel_rfl) (by kernel_rfl) (fun _ _ _ h => h) (Or.inl ⟨by rfl, ?_⟩) (by assumption) ?_
        rotate_left 1
        · intro wS hSw; obtain ⟨f1, f2, f3, f4, f5, f6, f7, f8⟩ := HF.out wS hSw; go_simp; try (with_reducible rfl)
        try simp only [Act.put, List.getElem_toArray, List.getElem_cons_zero, List.getElem_cons_succ, List.setIfInBounds_toArray, List.set_cons_zero, List.set_cons_succ]
        refine wpAnyH_take (i := 14) (v := ?_) rfl (by kernel_rfl) (by kernel_rfl) (by kernel_rfl) (fun _ _ _ h => h) (Or.inl ⟨by rfl, ?_⟩) (by assumption) ?_
        rotate_left 1
        · intro wS hSw; obtain ⟨f1, f2, f3, f4, f5, f6, f7, f8⟩ := HF.out wS hSw; go_simp; try (with_reducible rfl)
        try simp only [Act.put, List.getElem_toArray, List.getElem_cons_zero, List.getElem_cons_succ, List.setIfInBounds_toArray, List.set_cons_zero, List.set_cons_succ]
        refine wpAnyH_take (i := 15) (v := ?_) rfl (by kernel_rfl) (by kernel_rfl) (by kernel_rfl) (fun _ _ _ h => h) (Or.inl ⟨by rfl, ?_⟩) (by assumption) ?_
        rotate_left 1
        · intro wS hSw; obtain ⟨f1, f2, f3, f4, f5, f6, f7, f8⟩ := HF.out wS hSw; go_simp; try (with_reducible rfl)
        try simp only [Act.put, List.getElem_toArray, List.getElem_cons_zero, List.getElem_cons_succ, List.setIfInBounds_toArray, List.set_cons_zero, List.set_cons_succ]
        refine wpAnyH_take (i := 16) (v := ?_) rfl (by kernel_rfl) (by kernel_rfl) (by kernel_rfl) (fun _ _ _ h => h) (Or.inl ⟨by rfl, ?_⟩) (by assumption) ?_
        rotate_left 1
        · intro wS hSw; obtain ⟨f1, f2, f3, f4, f5, f6, f7, f8⟩ := HF.out wS hSw; go_simp; try (with_reducible rfl)
        try simp only [Act.put, List.getElem_toArray, List.getElem_cons_zero, List.getElem_cons_succ, List.setIfInBounds_toArray, List.set_cons_zero, List.set_cons_succ]
        refine wpAnyH_take (i := 17) (v := ?_) rfl (by kernel_rfl) (by kernel_rfl) (by kernel_rfl) (fun _ _ _ h => h) (Or.inl ⟨by rfl, ?_⟩) (by assumption) ?_
        rotate_left 1
        · intro wS hSw; obtain ⟨f1, f2, f3, f4, f5, f6, f7, f8⟩ := HF.out wS hSw; go_simp; try (with_reducible rfl)
        try simp only [Act.put, List.getElem_toArray, List.getElem_cons_zero, List.getElem_cons_succ, List.setIfInBounds_toArray, List.set_cons_zero, List.set_cons_succ]
        refine wpAnyH_take (i := 18) (v := ?_) rfl (by kernel_rfl) (by kernel_rfl) (by kernel_rfl) (fun _ _ _ h => h) (Or.inl ⟨by rfl, ?_⟩) (by assumption) ?_
        rotate_left 1
        · intro wS hSw; obtain ⟨f1, f2, f3, f4, f5, f6, f7, f8⟩ := HF.out wS hSw; go_simp; try (with_reducible rfl)
        try simp only [Act.put, List.getElem_toArray, List.getElem_cons_zero, List.getElem_cons_succ, List.setIfInBounds_toArray, List.set_cons_zero, List.set_cons_succ]
        refine wpAnyH_take (i := 19) (v := ?_) rfl (by kernel_rfl) (by kernel_rfl) (by kernel_rfl) (fun _ _ _ h => h) (Or.inl ⟨by rfl, ?_⟩) (by assumption) ?_
        rotate_left 1
        · intro wS hSw; obtain ⟨f1, f2, f3, f4, f5, f6, f7, f8⟩ := HF.out wS hSw; go_simp; try (with_reducible rfl)
        try simp only [Act.put, List.getElem_toArray, List.getElem_cons_zero, List.getElem_cons_succ, List.setIfInBounds_toArray, List.set_cons_zero, List.set_cons_succ]
        refine wpAnyH_take (i := 20) (v := ?_) rfl (by kernel_rfl) (by kernel_rfl) (by kernel_rfl) (fun _ _ _ h => h) (Or.inl ⟨by rfl, ?_⟩) (by assumption) ?_
        rotate_left 1
        · intro wS hSw; obtain ⟨f1, f2, f3, f4, f5, f6, f7, f8⟩ := HF.out wS hSw; go_simp; try (with_reducible rfl)
        try simp only [Act.put, List.getElem_toArray, List.getElem_cons_zero, List.getElem_cons_succ, List.setIfInBounds_toArray, List.set_cons_zero, List.set_cons_succ]
        refine wpAnyH_take (i := 21) (v := ?_) rfl (by kernel_rfl) (by kernel_rfl) (by kernel_rfl) (fun _ _ _ h => h) (Or.inl ⟨by rfl, ?_⟩) (by assumption) ?_
        rotate_left 1
        · intro wS hSw; obtain ⟨f1, f2, f3, f4, f5, f6, f7, f8⟩ := HF.out wS hSw; go_simp; try (with_reducible rfl)
        try simp only [Act.put, List.getElem_toArray, List.getElem_cons_zero, List.getElem_cons_succ, List.setIfInBounds_toArray, List.set_cons_zero, List.set_cons_succ]
        refine wpAnyH_take (i := 22) (v := ?_) rfl (by kernel_rfl) (by kernel_rfl) (by kernel_rfl) (fun _ _ _ h => h) (Or.inl ⟨by rfl, ?_⟩) (by assumption) ?_
        rotate_left 1
        · intro wS hSw; obtain ⟨f1, f2, f3, f4, f5, f6, f7, f8⟩ := HF.out wS hSw; go_simp; try (with_reducible rfl)
        try simp only [Act.put, List.getElem_toArray, List.getElem_cons_zero, List.getElem_cons_succ, List.setIfInBounds_toArray, List.set_cons_zero, List.set_cons_succ]
        refine wpAnyH_take (i := 23) (v := ?_) rfl (by kernel_rfl) (by kernel_rfl) (by kernel_rfl) (fun _ _ _ h => h) (Or.inl ⟨by rfl, ?_⟩) (by assumption) ?_
        rotate_left 1
        · intro wS hSw; obtain ⟨f1, f2, f3, f4, f5, f6, f7, f8⟩ := HF.out wS hSw; go_simp; try (with_reducible rfl)
        try simp only [Act.put, List.getElem_toArray, List.getElem_cons_zero, List.getElem_cons_succ, List.setIfInBounds_toArray, List.set_cons_zero, List.set_cons_succ]
        refine wpAnyH_take (i := 24) (v := ?_) rfl (by kernel_rfl) (by kernel_rfl) (by kernel_rfl) (fun _ _ _ h => h) (Or.inl ⟨by rfl, ?_⟩) (by assumption) ?_
        rotate_left 1
        · intro wS hSw; obtain ⟨f1, f2, f3, f4, f5, f6, f7, f8⟩ := HF.out wS hSw; go_simp; try (with_reducible rfl)
        try simp only [Act.put, List.getElem_toArray, List.getElem_cons_zero, List.getElem_cons_succ, List.setIfInBounds_toArray, List.set_cons_zero, List.set_cons_succ]
        refine wpAnyH_take (i := 25) (v := ?_) rfl (by kernel_rfl) (by kernel_rfl) (by kernel_rfl) (fun _ _ _ h => h) (Or.inl ⟨by rfl, ?_⟩) (by assumption) ?_
        rotate_left 1
        · intro wS hSw; obtain ⟨f1, f2, f3, f4, f5, f6, f7, f8⟩ := HF.out wS hSw; go_simp; try (with_reducible rfl)
        try simp only [Act.put, List.getElem_toArray, List.getElem_cons_zero, List.getElem_cons_succ, List.setIfInBounds_toArray, List.set_cons_zero, List.set_cons_succ]
        refine wpAnyH_ready (rs := [26]) (by kernel_rfl) (by simp) ?_
        refine AllReadyH.cons rfl (fun K hK => ?_) AllReadyH.nil
        go_simp
        refine (Compare_any (R0p.out.kf (kfb K2.out)).rdd (R1.out.kf (kfb K2.out)).rdd).mono ?_
        rintro e w4 ⟨rfl, rfl⟩
        go_wp2_with fail
        refine hK.out _ _ hHeld (fun hHeld => ?_)
        clear hK K
        try simp only [Act.put, List.getElem_toArray, List.getElem_cons_zero, List.getElem_cons_succ, List.setIfInBounds_toArray, List.set_cons_zero, List.set_cons_succ]
        refine wpAnyH_take (i := 27) (v := ?_) rfl (by kernel_rfl) (by kernel_rfl) (by kernel_rfl) (fun _ _ _ h => h) (Or.inl ⟨by rfl, ?_⟩) (by assumption) ?_
        rotate_left 1
        · intro wS hSw; obtain ⟨f1, f2, f3, f4, f5, f6, f7, f8⟩ := HF.out wS hSw; go_simp; try (with_reducible rfl)
        try simp only [Act.put, List.getElem_toArray, List.getElem_cons_zero, List.getElem_cons_succ, List.setIfInBounds_toArray, List.set_cons_zero, List.set_cons_succ]
        refine wpAnyH_take (i := 28) (v := ?_) rfl (by kernel_rfl) (by kernel_rfl) (by kernel_rfl) (fun _ _ _ h => h) (Or.inl ⟨by rfl, ?_⟩) (by assumption) ?_
        rotate_left 1
        · intro wS hSw; obtain ⟨f1, f2, f3, f4, f5, f6, f7, f8⟩ := HF.out wS hSw; go_simp; try (with_reducible rfl)
        try simp only [Act.put, List.getElem_toArray, List.getElem_cons_zero, List.getElem_cons_succ, List.setIfInBounds_toArray, List.set_cons_zero, List.set_cons_succ]
        refine wpAnyH_take (i := 29) (v := ?_) rfl (by kernel_rfl) (by kernel_rfl) (by kernel_rfl) (fun _ _ _ h => h) (Or.inl ⟨by rfl, ?_⟩) (by assumption) ?_
        rotate_left 1
        · intro wS hSw; obtain ⟨f1, f2, f3, f4, f5, f6, f7, f8⟩ := HF.out wS hSw; go_simp; try (with_reducible rfl)
        try simp only [Act.put, List.getElem_toArray, List.getElem_cons_zero, List.getElem_cons_succ, List.setIfInBounds_toArray, List.set_cons_zero, List.set_cons_succ]
        refine wpAnyH_done (by kernel_rfl) ?_ _
        go_wp2_with fail
        go_roundw
        case rel => exact ⟨j + 1, by omega, by go_num, K2.out, HVN.out.bel hHeld⟩
        case measure => simp [intOf]; omega
      · have hjn : ¬ (0 : Int) < (j : Int) := by omega
        have hjd : decide ((0 : Int) < (j : Int)) = false := decide_eq_false hjn
        have HF0 := Lib.hid (⟨T0.c 0 _ rfl, T0.c 1 _ rfl, T0.c 2 _ rfl, V0.c 1 _ rfl, V0.c 2 _ rfl, V0.c 3 _ rfl, V0.c 4 _ rfl⟩ : _ ∧ _ ∧ _ ∧ _ ∧ _ ∧ _ ∧ _)
        clear hWi di hb hv T0 V0 r1
        go_wp2_with fail
        rw [← HWi.out]
        obtain ⟨V, hV⟩ : ∃ V, V = Wi := ⟨_, rfl⟩
        have HV0 := Lib.hid (show Below V.heap.size V Wi.drew from hV ▸ (Below.refl _ _).drew)
        have HF := Lib.hid (fun X (h : Below V.heap.size V X) => (⟨cell_bel h (hV ▸ HF0.out.1), cell_bel h (hV ▸ HF0.out.2.1), cell_bel h (hV ▸ HF0.out.2.2.1), cell_bel h (hV ▸ HF0.out.2.2.2.1), cell_bel h (hV ▸ HF0.out.2.2.2.2.1), cell_bel h (hV ▸ HF0.out.2.2.2.2.2.1), cell_bel h (hV ▸ HF0.out.2.2.2.2.2.2)⟩ : _ ∧ _ ∧ _ ∧ _ ∧ _ ∧ _ ∧ _))
        have HK0 := Lib.hid (show Below w.heap.size w V from hV ▸ K0.out)
        have HVN := Lib.hid (show VN V w.heap.size [.int .i64 p, .int .i64 (k : Int), .slice A1 lo.length c1, .slice A2 hi.length c2, .slice (some ⟨b, o, none⟩) li.length c] from hV ▸ VN0.out)
        clear HF0 hV
        refine wp_region_held_drew (S := fun X => Below V.heap.size V X) (by kernel_rfl) HV0.out (fun hHeld => ?_)
        refine wpAnyH_take (i := 0) (v := ?_) rfl (by kernel_rfl) (by kernel_rfl) (by kernel_rfl) (fun _ _ _ h => h) (Or.inl ⟨by rfl, ?_⟩) (by assumption) ?_
        rotate_left 1
        · intro wS hSw; obtain ⟨f1, f2, f3, f4, f5, f6, f7⟩ := HF.out wS hSw; go_simp; try (with_reducible rfl)
        try simp only [Act.put, List.getElem_toArray, List.getElem_cons_zero, List.getElem_cons_succ, List.setIfInBounds_toArray, List.set_cons_zero, List.set_cons_succ]
        refine wpAnyH_take (i := 1) (v := ?_) rfl (by kernel_rfl) (by kernel_rfl) (by kernel_rfl) (fun _ _ _ h => h) (Or.inl ⟨by rfl, ?_⟩) (by assumption) ?_
        rotate_left 1
        · intro wS hSw; obtain ⟨f1, f2, f3, f4, f5, f6, f7⟩ := HF.out wS hSw; go_simp; try (with_reducible rfl)
        try simp only [Act.put, List.getElem_toArray, List.getElem_cons_zero, List.getElem_cons_succ, List.setIfInBounds_toArray, List.set_cons_zero, List.set_cons_succ]
        refine wpAnyH_take (i := 2) (v := ?_) rfl (by kernel_rfl) (by kernel_rfl) (by kernel_rfl) (fun _ _ _ h => h) (Or.inl ⟨by rfl, ?_⟩) (by assumption) ?_
        rotate_left 1
        · intro wS hSw; obtain ⟨f1, f2, f3, f4, f5, f6, f7⟩ := HF.out wS hSw; go_simp; try (with_reducible rfl)
        try simp only [Act.put, List.getElem_toArray, List.getElem_cons_zero, List.getElem_cons_succ, List.setIfInBounds_toArray, List.set_cons_zero, List.set_cons_succ]
        refine wpAnyH_ready (rs := [3]) (by kernel_rfl) (by simp) ?_
        refine AllReadyH.cons rfl (fun K hK => ?_) AllReadyH.nil
        go_simp
        refine (may_bel (HK0.out.trans (hHeld.mono HK0.out.size)) Ak Ar ck cr q k li[j] HMY.out).mono ?_
        rintro e w2 ⟨rfl, h1, h2⟩
        have hn := hHeld.trans (h2.mono hHeld.size)
        have K1 := Lib.hid h1
        clear h1 h2 hHeld
        go_wp2_with fail
        refine hK.out _ _ hn (fun hHeld => ?_)
        clear hK K
        try simp only [Act.put, List.getElem_toArray, List.getElem_cons_zero, List.getElem_cons_succ, List.setIfInBounds_toArray, List.set_cons_zero, List.set_cons_succ]
        refine wpAnyH_take (i := 4) (v := ?_) rfl (by kernel_rfl) (by kernel_rfl) (by kernel_rfl) (fun _ _ _ h => h) (Or.inl ⟨by rfl, ?_⟩) (by assumption) ?_
        rotate_left 1
        · intro wS hSw; obtain ⟨f1, f2, f3, f4, f5, f6, f7⟩ := HF.out wS hSw; go_simp; try (with_reducible rfl)
        try simp only [Act.put, List.getElem_toArray, List.getElem_cons_zero, List.getElem_cons_succ, List.setIfInBounds_toArray, List.set_cons_zero, List.set_cons_succ]
        refine wpAnyH_take (i := 5) (v := ?_) rfl (by kernel_rfl) (by kernel_rfl) (by kernel_rfl) (fun _ _ _ h => h) (Or.inl ⟨by rfl, ?_⟩) (by assumption) ?_
        rotate_left 1
        · intro wS hSw; obtain ⟨f1, f2, f3, f4, f5, f6, f7⟩ := HF.out wS hSw; go_simp; try (with_reducible rfl)
        try simp only [Act.put, List.getElem_toArray, List.getElem_cons_zero, List.getElem_cons_succ, List.setIfInBounds_toArray, List.set_cons_zero, List.set_cons_succ]
        refine wpAnyH_take (i := 6) (v := ?_) rfl (by kernel_rfl) (by kernel_rfl) (by kernel_rfl) (fun _ _ _ h => h) (Or.inl ⟨by rfl, ?_⟩) (by assumption) ?_
        rotate_left 1
        · intro wS hSw; obtain ⟨f1, f2, f3, f4, f5, f6, f7⟩ := HF.out wS hSw; go_simp; try (with_reducible rfl)
        try simp only [Act.put, List.getElem_toArray, List.getElem_cons_zero, List.getElem_cons_succ, List.setIfInBounds_toArray, List.set_cons_zero, List.set_cons_succ]
        refine wpAnyH_take (i := 7) (v := ?_) rfl (by kernel_rfl) (by kernel_rfl) (by kernel_rfl) (fun _ _ _ h => h) (Or.inl ⟨by rfl, ?_⟩) (by assumption) ?_
        rotate_left 1
        · intro wS hSw; obtain ⟨f1, f2, f3, f4, f5, f6, f7⟩ := HF.out wS hSw; go_simp; try (with_reducible rfl)
        try simp only [Act.put, List.getElem_toArray, List.getElem_cons_zero, List.getElem_cons_succ, List.setIfInBounds_toArray, List.set_cons_zero, List.set_cons_succ]
        refine wpAnyH_take (i := 8) (v := ?_) rfl (by kernel_rfl) (by kernel_rfl) (by kernel_rfl) (fun _ _ _ h => h) (Or.inl ⟨by rfl, ?_⟩) (by assumption) ?_
        rotate_left 1
        · intro wS hSw; obtain ⟨f1, f2, f3, f4, f5, f6, f7⟩ := HF.out wS hSw; go_simp; try (with_reducible rfl)
        try simp only [Act.put, List.getElem_toArray, List.getElem_cons_zero, List.getElem_cons_succ, List.setIfInBounds_toArray, List.set_cons_zero, List.set_cons_succ]
        refine wpAnyH_take (i := 9) (v := ?_) rfl (by kernel_rfl) (by kernel_rfl) (by kernel_rfl) (fun _ _ _ h => h) (Or.inl ⟨by rfl, ?_⟩) (by assumption) ?_
        rotate_left 1
        · intro wS hSw; obtain ⟨f1, f2, f3, f4, f5, f6, f7⟩ := HF.out wS hSw; go_simp; try (with_reducible rfl)
        try simp only [Act.put, List.getElem_toArray, List.getElem_cons_zero, List.getElem_cons_succ, List.setIfInBounds_toArray, List.set_cons_zero, List.set_cons_succ]
        refine wpAnyH_ready (rs := [10]) (by kernel_rfl) (by simp) ?_
        refine AllReadyH.cons rfl (fun K hK => ?_) AllReadyH.nil
        go_simp
        refine (hasS_bel K1.out H1.out H2.out R1.out).mono ?_
        rintro e w3 ⟨rfl, h1, h2⟩
        rw [HHS.out]
        have hn3 := hHeld.trans (h2.mono hHeld.size)
        have K2 := Lib.hid h1
        clear h1 h2 hHeld
        go_wp2_with fail
        refine hK.out _ _ hn3 (fun hHeld => ?_)
        clear hK K
        try simp only [Act.put, List.getElem_toArray, List.getElem_cons_zero, List.getElem_cons_succ, List.setIfInBounds_toArray, List.set_cons_zero, List.set_cons_succ]
        refine wpAnyH_take (i := 11) (v := ?_) rfl (by kernel_rfl) (by kernel_rfl) (by kernel_rfl) (fun _ _ _ h => h) (Or.inl ⟨by rfl, ?_⟩) (by assumption) ?_
        rotate_left 1
        · intro wS hSw; obtain ⟨f1, f2, f3, f4, f5, f6, f7⟩ := HF.out wS hSw; go_simp; try (with_reducible rfl)
        try simp only [Act.put, List.getElem_toArray, List.getElem_cons_zero, List.getElem_cons_succ, List.setIfInBounds_toArray, List.set_cons_zero, List.set_cons_succ]
        refine wpAnyH_take (i := 12) (v := ?_) rfl (by kernel_rfl) (by kernel_rfl) (by kernel_rfl) (fun _ _ _ h => h) (Or.inl ⟨by rfl, ?_⟩) (by assumption) ?_
        rotate_left 1
        · intro wS hSw; obtain ⟨f1, f2, f3, f4, f5, f6, f7⟩ := HF.out wS hSw; go_simp; try (with_reducible rfl)
        try simp only [Act.put, List.getElem_toArray, List.getElem_cons_zero, List.getElem_cons_succ, List.setIfInBounds_toArray, List.set_cons_zero, List.set_cons_succ]
        refine wpAnyH_take (i := 13) (v := ?_) rfl (by kernel_rfl) (by kernel_rfl) (by kernel_rfl) (fun _ _ _ h => h) (Or.inl ⟨by rfl, ?_⟩) (by assumption) ?_
        rotate_left 1
        · intro wS hSw; obtain ⟨f1, f2, f3, f4, f5, f6, f7⟩ := HF.out wS hSw; go_simp; try (with_reducible rfl)
        try simp only [Act.put, List.getElem_toArray, List.getElem_cons_zero, List.getElem_cons_succ, List.setIfInBounds_toArray, List.set_cons_zero, List.set_cons_succ]
        refine wpAnyH_take (i := 14) (v := ?_) rfl (by kernel_rfl) (by kernel_rfl) (by kernel_rfl) (fun _ _ _ h => h) (Or.inl ⟨by rfl, ?_⟩) (by assumption) ?_
        rotate_left 1
        · intro wS hSw; obtain ⟨f1, f2, f3, f4, f5, f6, f7⟩ := HF.out wS hSw; go_simp; try (with_reducible rfl)
        try simp only [Act.put, List.getElem_toArray, List.getElem_cons_zero, List.getElem_cons_succ, List.setIfInBounds_toArray, List.set_cons_zero, List.set_cons_succ]
        refine wpAnyH_take (i := 15) (v := ?_) rfl (by kernel_rfl) (by kernel_rfl) (by kernel_rfl) (fun _ _ _ h => h) (Or.inl ⟨by rfl, ?_⟩) (by assumption) ?_
        rotate_left 1
        · intro wS hSw; obtain ⟨f1, f2, f3, f4, f5, f6, f7⟩ := HF.out wS hSw; go_simp; try (with_reducible rfl)
        try simp only [Act.put, List.getElem_toArray, List.getElem_cons_zero, List.getElem_cons_succ, List.setIfInBounds_toArray, List.set_cons_zero, List.set_cons_succ]
        refine wpAnyH_take (i := 16) (v := ?_) rfl (by kernel_rfl) (by kernel_rfl) (by kernel_rfl) (fun _ _ _ h => h) (Or.inl ⟨by rfl, ?_⟩) (by assumption) ?_
        rotate_left 1
        · intro wS hSw; obtain ⟨f1, f2, f3, f4, f5, f6, f7⟩ := HF.out wS hSw; go_simp; try (with_reducible rfl)
        try simp only [Act.put, List.getElem_toArray, List.getElem_cons_zero, List.getElem_cons_succ, List.setIfInBounds_toArray, List.set_cons_zero, List.set_cons_succ]
        refine wpAnyH_take (i := 17) (v := undef) rfl (by kernel_rfl) (by kernel_rfl) (by kernel_rfl) (fun _ _ _ h => h) (Or.inr ⟨by rfl, rfl⟩) (by assumption) ?_
        try simp only [Act.put, List.getElem_toArray, List.getElem_cons_zero, List.getElem_cons_succ, List.setIfInBounds_toArray, List.set_cons_zero, List.set_cons_succ]
        refine wpAnyH_take (i := 18) (v := undef) rfl (by kernel_rfl) (by kernel_rfl) (by kernel_rfl) (fun _ _ _ h => h) (Or.inr ⟨by rfl, rfl⟩) (by assumption) ?_
        try simp only [Act.put, List.getElem_toArray, List.getElem_cons_zero, List.getElem_cons_succ, List.setIfInBounds_toArray, List.set_cons_zero, List.set_cons_succ]
        refine wpAnyH_take (i := 19) (v := undef) rfl (by kernel_rfl) (by kernel_rfl) (by kernel_rfl) (fun _ _ _ h => h) (Or.inr ⟨by rfl, rfl⟩) (by assumption) ?_
        try simp only [Act.put, List.getElem_toArray, List.getElem_cons_zero, List.getElem_cons_succ, List.setIfInBounds_toArray, List.set_cons_zero, List.set_cons_succ]
        refine wpAnyH_take (i := 20) (v := undef) rfl (by kernel_rfl) (by kernel_rfl) (by kernel_rfl) (fun _ _ _ h => h) (Or.inr ⟨by rfl, rfl⟩) (by assumption) ?_
        try simp only [Act.put, List.getElem_toArray, List.getElem_cons_zero, List.getElem_cons_succ, List.setIfInBounds_toArray, List.set_cons_zero, List.set_cons_succ]
        refine wpAnyH_take (i := 21) (v := undef) rfl (by kernel_rfl) (by kernel_rfl) (by kernel_rfl) (fun _ _ _ h => h) (Or.inr ⟨by rfl, rfl⟩) (by assumption) ?_
        try simp only [Act.put, List.getElem_toArray, List.getElem_cons_zero, List.getElem_cons_succ, List.setIfInBounds_toArray, List.set_cons_zero, List.set_cons_succ]
        refine wpAnyH_take (i := 22) (v := undef) rfl (by kernel_rfl) (by kernel_rfl) (by kernel_rfl) (fun _ _ _ h => h) (Or.inr ⟨by rfl, rfl⟩) (by assumption) ?_
        try simp only [Act.put, List.getElem_toArray, List.getElem_cons_zero, List.getElem_cons_succ, List.setIfInBounds_toArray, List.set_cons_zero, List.set_cons_succ]
        refine wpAnyH_take (i := 23) (v := undef) rfl (by kernel_rfl) (by kernel_rfl) (by kernel_rfl) (fun _ _ _ h => h) (Or.inr ⟨by rfl, rfl⟩) (by assumption) ?_
        try simp only [Act.put, List.getElem_toArray, List.getElem_cons_zero, List.getElem_cons_succ, List.setIfInBounds_toArray, List.set_cons_zero, List.set_cons_succ]
        refine wpAnyH_take (i := 24) (v := undef) rfl (by kernel_rfl) (by kernel_rfl) (by kernel_rfl) (fun _ _ _ h => h) (Or.inr ⟨by rfl, rfl⟩) (by assumption) ?_
        try simp only [Act.put, List.getElem_toArray, List.getElem_cons_zero, List.getElem_cons_succ, List.setIfInBounds_toArray, List.set_cons_zero, List.set_cons_succ]
        refine wpAnyH_take (i := 25) (v := undef) rfl (by kernel_rfl) (by kernel_rfl) (by kernel_rfl) (fun _ _ _ h => h) (Or.inr ⟨by rfl, rfl⟩) (by assumption) ?_
        try simp only [Act.put, List.getElem_toArray, List.getElem_cons_zero, List.getElem_cons_succ, List.setIfInBounds_toArray, List.set_cons_zero, List.set_cons_succ]
        refine wpAnyH_take (i := 26) (v := undef) rfl (by kernel_rfl) (by kernel_rfl) (by kernel_rfl) (fun _ _ _ h => h) (Or.inr ⟨by rfl, rfl⟩) (by assumption) ?_
        try simp only [Act.put, List.getElem_toArray, List.getElem_cons_zero, List.getElem_cons_succ, List.setIfInBounds_toArray, List.set_cons_zero, List.set_cons_succ]
        refine wpAnyH_take (i := 27) (v := undef) rfl (by kernel_rfl) (by kernel_rfl) (by kernel_rfl) (fun _ _ _ h => h) (Or.inr ⟨by rfl, rfl⟩) (by assumption) ?_
        try simp only [Act.put, List.getElem_toArray, List.getElem_cons_zero, List.getElem_cons_succ, List.setIfInBounds_toArray, List.set_cons_zero, List.set_cons_succ]
        refine wpAnyH_take (i := 28) (v := ?_) rfl (by kernel_rfl) (by kernel_rfl) (by kernel_rfl) (fun _ _ _ h => h) (Or.inl ⟨by rfl, ?_⟩) (by assumption) ?_
        rotate_left 1
        · intro wS hSw; obtain ⟨f1, f2, f3, f4, f5, f6, f7⟩ := HF.out wS hSw; go_simp; try (with_reducible rfl)
        try simp only [Act.put, List.getElem_toArray, List.getElem_cons_zero, List.getElem_cons_succ, List.setIfInBounds_toArray, List.set_cons_zero, List.set_cons_succ]
        refine wpAnyH_take (i := 29) (v := ?_) rfl (by kernel_rfl) (by kernel_rfl) (by kernel_rfl) (fun _ _ _ h => h) (Or.inl ⟨by rfl, ?_⟩) (by assumption) ?_
        rotate_left 1
        · intro wS hSw; obtain ⟨f1, f2, f3, f4, f5, f6, f7⟩ := HF.out wS hSw; go_simp; try (with_reducible rfl)
        try simp only [Act.put, List.getElem_toArray, List.getElem_cons_zero, List.getElem_cons_succ, List.setIfInBounds_toArray, List.set_cons_zero, List.set_cons_succ]
        refine wpAnyH_done (by kernel_rfl) ?_ _
        go_wp2_with fail
        go_roundw
        case rel => exact ⟨j + 1, by omega, by go_num, K2.out, HVN.out.bel hHeld⟩
        case measure => simp [intOf]; omega
    · obtain rfl : j = li.length := by omega
      obtain ⟨b, o, Ak, ck, Ar, cr, q, rfl, g1, -, -, -, -, r1, -⟩ := H.out.at (i := 0) HR.out.pos
      have g1 := cell_bel hb g1
      simp only [Nat.zero_mul, Nat.add_zero] at g1
      have v1 := hv.c 1 _ rfl
      have v2 := hv.c 2 _ rfl
      have v4 := hv.c 4 _ rfl
      have HB := Lib.hid hb
      by_cases hk : k = 0
      · have hk' : (((k : Nat) : Int) == 0) = true := beq_iff_eq.2 (by omega)
        clear hb hv r1 g1
        go_wp2_with fail
        go_quiet (fail)
        go_wp2
        go_ret
        exact ⟨rfl, below_drewN HB.out nq⟩
      · have hk' : (((k : Nat) : Int) == 0) = false := beq_eq_false_iff_ne.2 (by omega)
        obtain ⟨h1l, h2l⟩ := HR.out.two (by omega)
        have h1i : (1 : Int) < (li.length : Int) := by omega
        have h0i : (0 : Int) < (li.length : Int) := by omega
        have E := Lib.hid (fun n => Equal_any (w := wr.drewN n) (((r1.kf (kfb hb)).kf (kfb (below_drewN (Below.refl _ wr) n))).rdd) (((H1.out.kf (kfb hb)).kf (kfb (below_drewN (Below.refl _ wr) n))).rdd))
        have hd : decide (li[0].1 = lo) = true := decide_eq_true (h2l _)
        rw [hd] at E
        clear hb hv r1 h2l hd
        go_wp2_with fail
        go_quiet (first | (go_at_call 34; refine Calls.quiet_of_same (E.out _)))
        go_wp2
        go_ret
        exact ⟨rfl, below_drewN HB.out nq⟩
end
theorem must_ok (w : World) : Calls Tryz.prog 95 #[.int .i64 0] w fun e w' => e = .returned (.tuple #[]) ∧ w' = w := by
  go_enter Tryz.func95, Tryz.ntmps95
  go_wp2
  first | go_end0 | (simp only [Exit.inBlock, Exit.then]; refine bodyPost_ret (results_none rfl _ _ _) rfl ?_) | refine bodyPost_ret (results_none rfl _ _ _) rfl ?_
  exact ⟨rfl, rfl⟩
theorem KR0.low {w : World} {F : Nat → Prop} {N N' : Nat} {v : Value} {l : List It} (h : KR0 w F N v l) (hN : N' ≤ N) : KR0 w F N' v l := by
  obtain ⟨A, c, e, h1, h2, h3, h4⟩ := h
  exact ⟨A, c, e, h1, h2, h3, fun hn => by
    obtain ⟨b, o, e2, hb, hf, hN2, r⟩ := h4 hn
    exact ⟨b, o, e2, hb, hf, by omega, r⟩⟩
section
variable {B : Nat} {W w w' : World} {sb db : Nat} {y y' : SLay} {s s' : Sto} {yd yd' : Dk.Lay} {d d' : Dk.Dsk} {m m' : Nat}
theorem Bo.flt (bo : Bo B W w sb db y yd s d m) : ∀ b, both y yd b → b < w.heap.size := fun b h => h.elim (fun h => bo.is.foot b h) (fun h => bo.st.is.foot b h)
structure PageOk (s : Sto) (d : Dk.Dsk) (p : Nat) (l : By) : Prop where
  ans : ansRd s d (p : Int) = 0
  rd : rdOf s d p = some l
set_option maxHeartbeats 8000000 in
theorem read_any (bo : Bo B W w sb db y yd s d m) {p k : Nat} {lo hi : By} {l : Its k} {A1 A2 : Option Addr} {c1 c2 : Nat} (hp : PageOk s d p (told k l)) (hk : k < 256) (hr : Right k lo hi l) (hs : nsz l ≤ 4011)
    {F1 F2 : Nat → Prop} (h1 : RdF w F1 (.slice A1 lo.length c1) lo) (h2 : RdF w F2 (.slice A2 hi.length c2) hi) :
    Calls Tryz.prog 71 #[pt sb, .int .i64 (p : Int), .agg #[.slice A1 lo.length c1, .slice A2 hi.length c2]] w fun e w' =>
      ∃ v, e = .returned (.agg #[.int .i64 (p : Int), .int .i64 (k : Int), .slice A1 lo.length c1, .slice A2 hi.length c2, v]) ∧ KR0 w' (fun q => q < w.heap.size) w.heap.size v (its l) ∧ Below w.heap.size w w' := by
  have hnl : (its l).length ≤ 100000 := by have := len_le_isum (its l); unfold nsz at hs; omega
  have his : isum (its l) ≤ 1000000000 := by unfold nsz at hs; omega
  have hlk : ∀ x ∈ its l, x.1.length < 65536 ∧ x.2.length < 65536 := fun x hx => by
    unfold its at hx
    obtain ⟨z, hz, rfl⟩ := List.mem_map.1 hx
    have := (may_size (hr.may z hz)).1
    unfold isz at this
    omega
  have BO := Lib.hid bo
  have HP := Lib.hid hp
  have HK := Lib.hid hk
  have HRL := Lib.hid hr.lst
  have H1 := Lib.hid (h1.mono (G := fun _ => False) (fun _ h => h.elim))
  have H2 := Lib.hid (h2.mono (G := fun _ => False) (fun _ h => h.elim))
  have HNL := Lib.hid hnl
  have HIS := Lib.hid his
  have HLK := Lib.hid hlk
  obtain ⟨W0, hW0⟩ : ∃ X, X = (w.alloc (.cells #[.slice A1 lo.length c1, .slice A2 hi.length c2] 72)).alloc (.cells #[.int .i64 0, .int .i64 0, .slice none 0 0, .slice none 0 0, .slice none 0 0] 75) := ⟨_, rfl⟩
  have B0 := Lib.hid (show Below w.heap.size w W0 from hW0 ▸ (box1 w _).alloc (by simp) _)
  have S0 := Lib.hid (show VN W0 w.heap.size [.slice A1 lo.length c1, .slice A2 hi.length c2] from hW0 ▸ (VN.new w _ _).alloc _)
  have R0 := Lib.hid (show VN W0 (w.heap.size + 1) [.int .i64 0, .int .i64 0, .slice none 0 0, .slice none 0 0, .slice none 0 0] from by
    have := VN.new (w.alloc (.cells #[.slice A1 lo.length c1, .slice A2 hi.length c2] 72)) #[.int .i64 0, .int .i64 0, .slice none 0 0, .slice none 0 0, .slice none 0 0] 75
    rw [hW0]; simpa using this)
  have hs0 : W0.heap.size = w.heap.size + 2 := by rw [hW0]; simp
  have HS0 := Lib.hid hs0
  clear hs0
  have HW0 := Lib.hid hW0
  have hans := hp.ans
  clear bo hp hk hr hs h1 h2 hnl his hlk hW0
  go_enter Tryz.func71, Tryz.ntmps71
  go_wp2_with fail
  rw [← HW0.out]
  go_wp2_with (first
    | (go_at_call 57; refine ((BO.out.keep B0.out).Read _).mono ?_; rintro e w1 ⟨v1, rfl, ho, -, hb⟩; obtain ⟨l1, hl1, ho1⟩ := ho hans; rw [Int.toNat_natCast, HP.out.rd] at hl1; injection hl1 with hl1; subst hl1; obtain ⟨A3, c3, rfl, -⟩ := ho1.form; have O1 := Lib.hid (RdF.own (F := fun q => q < W0.heap.size) ho1 (fun q hq => hq)); have B1 := Lib.hid (B0.out.trans (hb.mono B0.out.size)); have B01 := Lib.hid hb; have S1 := Lib.hid (S0.out.bel hb); have R1 := Lib.hid (R0.out.bel hb); rw [hans]; clear ho ho1 hb S0 R0)
    | (go_at_call 95; refine (must_ok _).mono ?_; rintro e w2 ⟨rfl, rfl⟩)
    | (go_at_call 100; refine (heard_any O1.out HK.out HLK.out HNL.out (fun q hq => Nat.lt_of_lt_of_le hq B01.out.size)).mono ?_; rintro e w3 ⟨v3, rfl, hkr, hb⟩; obtain ⟨A4, c4, rfl, -, -⟩ := hkr.kr.form; have KR3 := Lib.hid hkr; have B3 := Lib.hid (B1.out.trans (hb.mono B1.out.size)); have S3 := Lib.hid (S1.out.bel hb); have R3 := Lib.hid (R1.out.bel hb); clear hkr hb S1 R1))
  obtain ⟨W4, hW4⟩ : ∃ X, X = w3.alloc (.cells #[.int .i64 0, .int .i64 (k : Int), .slice none 0 0, .slice none 0 0, .slice A4 (its l).length c4] 75) := ⟨_, rfl⟩
  have b4 : Below w3.heap.size w3 W4 := hW4 ▸ box1 w3 _
  have N4 := Lib.hid (show VN W4 w3.heap.size [.int .i64 0, .int .i64 (k : Int), .slice none 0 0, .slice none 0 0, .slice A4 (its l).length c4] from hW4 ▸ VN.new w3 _ _)
  have S4 := Lib.hid (S3.out.bel b4)
  have R4 := Lib.hid (R3.out.bel b4)
  have B4 := Lib.hid (B3.out.trans (b4.mono B3.out.size))
  have B34 := Lib.hid b4
  rw [← hW4]
  have s0 := S4.out.c 0 _ rfl
  have s1 := S4.out.c 1 _ rfl
  have n0 := N4.out.c 0 _ rfl
  have n2 := N4.out.c 2 _ rfl
  have n3 := N4.out.c 3 _ rfl
  have z0 := N4.out.z 0
  have z2 := N4.out.z 2
  have z3 := N4.out.z 3
  have hne1 : ¬ w3.heap.size = w.heap.size := fun e => by have := S3.out.lt; omega
  have hne2 : ¬ w.heap.size = w3.heap.size := fun e => hne1 e.symm
  clear b4 hW4
  go_region
  have N5 := Lib.hid (((N4.out.set 0 (by simp) (.int .i64 (p : Int))).set 2 (by simp) (.slice A1 lo.length c1)).set 3 (by simp) (.slice A2 hi.length c2)).drew
  have B35 := Lib.hid (bel_set (bel_set (bel_set B34.out (Nat.le_refl _) (i := 0) (.int .i64 (p : Int))) (Nat.le_refl _) (i := 2) (.slice A1 lo.length c1)) (Nat.le_refl _) (i := 3) (.slice A2 hi.length c2)).drew
  have R5 := Lib.hid ((((R4.out.other (p := ⟨w3.heap.size, 0, none⟩) (fun e => by have := R3.out.lt; simp at e; omega) (.int .i64 (p : Int))).other (p := ⟨w3.heap.size, 2, none⟩) (fun e => by have := R3.out.lt; simp at e; omega) (.slice A1 lo.length c1)).other (p := ⟨w3.heap.size, 3, none⟩) (fun e => by have := R3.out.lt; simp at e; omega) (.slice A2 hi.length c2)).drew)
  clear s0 s1 n0 n2 n3 z0 z2 z3 hne1 hne2 N4 R4 S4 B4 B34
  generalize (((W4.setCell ⟨w3.heap.size, 0, none⟩ (.int .i64 (p : Int))).setCell ⟨w3.heap.size, 2, none⟩ (.slice A1 lo.length c1)).setCell ⟨w3.heap.size, 3, none⟩ (.slice A2 hi.length c2)).drew = W5 at N5 B35 R5 ⊢
  have B5 := Lib.hid (B3.out.trans (B35.out.mono B3.out.size))
  have n0 := N5.out.c 0 _ rfl
  have n1 := N5.out.c 1 _ rfl
  have n2 := N5.out.c 2 _ rfl
  have n3 := N5.out.c 3 _ rfl
  have n4 := N5.out.c 4 _ rfl
  have t1 := trivial
  go_wp2_with (go_at_call 101; clear t1; refine (right_any ((KR3.out.kf (kfb B35.out)).kr.mono (fun q h => h.elim)) (H1.out.bel B5.out) (H2.out.bel B5.out) HRL.out HIS.out).mono ?_; rintro e w6 ⟨rfl, hb⟩; have B6 := Lib.hid (B5.out.trans (hb.mono B5.out.size)); have B36 := Lib.hid (B35.out.trans (hb.mono B35.out.size)); have R6 := Lib.hid (R5.out.bel hb); have N6 := Lib.hid (N5.out.bel hb); have m0 := N6.out.c 0 _ rfl; have m1 := N6.out.c 1 _ rfl; have m2 := N6.out.c 2 _ rfl; have m3 := N6.out.c 3 _ rfl; have m4 := N6.out.c 4 _ rfl; have r0 := R6.out.c 0 _ rfl; have r1 := R6.out.c 1 _ rfl; have r2 := R6.out.c 2 _ rfl; have r3 := R6.out.c 3 _ rfl; have r4 := R6.out.c 4 _ rfl; have z0 := R6.out.z 0; have z1 := R6.out.z 1; have z2 := R6.out.z 2; have z3 := R6.out.z 3; have z4 := R6.out.z 4; clear hb n0 n1 n2 n3 n4)
  have Z := ((((R6.out.set 0 (by simp) (.int .i64 (p : Int))).set 1 (by simp) (.int .i64 (k : Int))).set 2 (by simp) (.slice A1 lo.length c1)).set 3 (by simp) (.slice A2 hi.length c2)).set 4 (by simp) (.slice A4 (its l).length c4)
  refine bodyPost_ret (results_c rfl (w.heap.size + 1) [.int .i64 (p : Int), .int .i64 (k : Int), .slice A1 lo.length c1, .slice A2 hi.length c2, .slice A4 (its l).length c4] _ rfl Z.range Tryz.underlying75 rfl info_node) rfl ?_
  have hle : w.heap.size ≤ w.heap.size + 1 := by omega
  have hb := bel_set (bel_set (bel_set (bel_set (bel_set B6.out hle (i := 0) (.int .i64 (p : Int))) hle (i := 1) (.int .i64 (k : Int))) hle (i := 2) (.slice A1 lo.length c1)) hle (i := 3) (.slice A2 hi.length c2)) hle (i := 4) (.slice A4 (its l).length c4)
  refine ⟨_, rfl, ?_, hb⟩
  refine ((KR3.out.kf (kfb B36.out)).low B1.out.size).kf ⟨⟨hb.os.trans B6.out.os.symm, hb.tape.trans B6.out.tape.symm, hb.output.trans B6.out.output.symm, by simp [World.setCell], fun q _ hq => ?_⟩, fun q _ h => by have := HS0.out; have h : q < w.heap.size := h; show q < W0.heap.size; omega⟩
  have hq : q ≠ w.heap.size + 1 := fun e => hq (by have := HS0.out; show q < W0.heap.size; omega)
  iterate 5 first | exact (Below.heap_setCell _ _ _ _ hq) | refine (Below.heap_setCell _ _ _ _ hq).trans ?_
end
end Go.Proofs.YtcjokkjepgfinaaGreatDoor.Tr
