import Derived.Test.YtnpebfolmdbipaaGreatDoorF6
namespace Go.Proofs.YtnpebfolmdbipaaGreatDoor.Fm
set_option linter.unusedVariables false
set_option linter.unusedSimpArgs false
open Go.RowKit Mem
attribute [local go_sem] Oper.semAt_some

theorem str_inj (a b : List UInt8) : str a = str b ↔ a = b := by
  constructor
  · intro h
    rw [← str_toList a, ← str_toList b, h]
  · rintro rfl; rfl
set_option maxRecDepth 20000 in
theorem Equal_any (A A' : Option Addr) (c c' n n' : Nat) (l l' : List UInt8) (w : World) (h : Rd w w.heap.size A c l) (h' : Rd w w.heap.size A' c' l') (hn : l.length = n) (hn' : l'.length = n') :
    Calls Tryz.prog 75 #[.slice A n c, .slice A' n' c'] w fun e w' => e = .returned (.bool (decide (l = l'))) ∧ w = w' := by
  subst hn; subst hn'
  have h1 := run_str_rd w h
  have h2 := run_str_rd w h'
  have hd : ((str l).toList == (str l').toList) = decide (l = l') := by rw [str_toList, str_toList, Bool.eq_iff_iff, beq_iff_eq, decide_eq_true_eq]
  have HD := Lib.hid hd
  clear h h' hd
  go_enter Tryz.func75, Tryz.ntmps75
  go_wp2
  go_ret
  exact ⟨by rw [← HD.out]; rfl, rfl⟩

set_option maxRecDepth 100000 in
set_option maxHeartbeats 2000000 in
theorem newest_short (A : Option Addr) (n c : Nat) (w : World) (hl : n ≠ 4096) (hl1 : n ≤ 9223372036854775807) :
    Calls Tryz.prog 74 #[.slice A n c] w fun e w' => e = .returned (.int .u64 0) ∧ Below w.heap.size w w' := by
  refine (callsIn_wide (n := 5)).1 ?_
  refine callsIn_of_wp_marks Tryz.func74 rfl trivial ?_ rfl
  simp only [Tryz.ntmps74, List.size_toArray, List.length_cons, List.length_nil, Nat.reduceAdd, Nat.reduceSub, Array.replicate_succ, Array.replicate_zero, List.push_toArray, List.append_toArray, List.nil_append, List.cons_append]
  gi_wp2_with (refine ⟨trivial, ?_⟩; gi_at_call 104; refine (callsIn_wide.2 (sectors_any _ _ _ _)).mono ?_; rintro e w' ⟨rfl, rfl⟩)
  have hs := cell_new w (.int .u64 0) 60
  have hb := cell_new (w.alloc (.cells #[.int .u64 0] 60)) (.slice A n c) 36
  rw [World.size_alloc] at hb
  have hB0 : Below w.heap.size w ((w.alloc (.cells #[.int .u64 0] 60)).alloc (.cells #[.slice A n c] 36)) := ((Below.refl _ w).alloc (Nat.le_refl _) _).alloc (by simp) _
  refine wpIn_rangeFunc_ownF rfl (by omega) (gf := 120) (lb := #[.pointer (some ⟨w.heap.size + 1, 0, none⟩)]) rfl trivial (enters_of Tryz.func120 (by kernel_rfl) rfl)
    (sectors_none (5 - 1) (by omega) (w.heap.size + 1) n c A hl hl1 _ (by simp) hb.1) Box.t (Box.b (by simp)) (Below.refl _ _) (fun _ => rfl)
    (fun pre W => (W.cell? ⟨w.heap.size, 0, none⟩ = some (.int .u64 0) ∧ W.frozen? ⟨w.heap.size, 0, none⟩ = false) ∧ Below w.heap.size w W)
    (fun _ _ _ => False)
    (OwnFrom.and (Own.from (fun s A B row hs hg hr => ⟨cell_kept hs.1 hg hr, (frozen_kept hs.1 hg hr).trans hs.2⟩) _) (ownFrom_below (Nat.le_refl _) (by simp; omega)))
    (fun _ _ _ _ _ hs _ _ => hs)
    ⟨⟨cell_kept_alloc _ hs.1, frozen_kept_alloc _ hs.1 hs.2⟩, hB0⟩
    (fun x => { tmps := #[.slice A n c, undef, .int .u64 0, .pointer (some ⟨w.heap.size, 0, none⟩), .slice (some ⟨0, x.1 * 512, none⟩) 8 0, .slice A n c, .func (.func 120) #[] #[.pointer (some ⟨w.heap.size + 1, 0, none⟩)],
      .slice (some ⟨0, x.1 * 512, none⟩) 8 0, .slice (some ⟨0, x.1 * 512 + 8, none⟩) 504 0, undef, undef, undef, undef, undef, undef], defers := [] }) ?assign ?body ?done ?stop
  case assign =>
    intro l x W K hK
    dsimp only [encs]
    simp only [Nat.zero_add, Nat.zero_sub]
    gi_wp2
    exact hK
  case body =>
    rintro lp pre x W _ hlen
    exact absurd hlen (by omega)
  case done =>
    rintro D ys W hD rfl ⟨⟨hc, _⟩, hB⟩ hK
    gi_wp2
    refine ⟨by simp, .inl ⟨_, _, rfl, run_takeDeferred hK, ?_⟩⟩
    exact ⟨_, results_tmp rfl _ _ _, rfl, hB.trans (belowK_b (w := w) (Nat.le_refl _) W D _ _ (by simp at hD; omega) hK rfl rfl)⟩
  case stop =>
    rintro D c pre W _ _ h _
    exact h.elim

/-- Newest of any bytes. -/
theorem Newest_any (A : Option Addr) (n c : Nat) (l : List UInt8) (w : World) (hr : Rd w w.heap.size A c l) (hn : l.length = n) :
    Calls Tryz.prog 74 #[.slice A n c] w fun e w' => e = .returned (.int .u64 (Frm.newest l : Int)) ∧ Below w.heap.size w w' := by
  by_cases h : n = 4096
  · subst h
    obtain ⟨g, o, rfl, _⟩ := hr.2.2.2 (by omega)
    unfold Frm.newest
    rw [if_pos hn]
    exact newest_any g o c l w hr hn
  · unfold Frm.newest
    rw [if_neg (by omega)]
    exact newest_short A n c w h (by have := hr.1; have := hr.2.1; unfold maxLen at this; omega)
theorem newest_lt (l : List UInt8) : Frm.newest l < 18446744073709551616 := by
  unfold Frm.newest
  split
  · have := mostOf_lt l (upto 8)
    rwa [mostOf_upto l 8 (Nat.le_refl _)] at this
  · omega

/-- What Get says of a page. -/
def gets (l : List UInt8) (a : Int) (k : Nat) : Prop := 0 ≤ a ∧ Frm.whole l a.toNat k
set_option maxRecDepth 20000 in
theorem get_short (A : Option Addr) (n c : Nat) (a : Int) (k : Nat) (w : World) (hn : n ≤ 9223372036854775807) (h : n ≠ 4096) :
    Calls Tryz.prog 38 #[.slice A n c, .int .i64 a, .int .u8 k] w fun e w' => e = .returned (.tuple #[.slice none 0 0, .int .u64 0, .bool false]) ∧ w = w' := by
  have h' : ¬ (n : Int) = 4096 := by omega
  clear h
  go_enter Tryz.func38, Tryz.ntmps38
  go_wp2_with fail
  go_ret3
  exact ⟨rfl, rfl⟩

set_option maxRecDepth 20000 in
set_option maxHeartbeats 1000000 in
theorem get_page (g o c : Nat) (l : List UInt8) (a : Int) (k : Nat) (w : World) (hT : Tab w) (hr : Rd w w.heap.size (some ⟨g, o, none⟩) c l) (hl : l.length = 4096) (hk : k < 256) :
    Calls Tryz.prog 38 #[.slice (some ⟨g, o, none⟩) 4096 c, .int .i64 a, .int .u8 k] w fun e w' =>
      (gets l a k → ∃ v, e = .returned (.tuple #[v, .int .u64 (Frm.newest l : Int), .bool true]) ∧ Mem.Own 5 w' w.heap.size v (Frm.held l)) ∧ (¬ gets l a k → e = .returned (.tuple #[.slice none 0 0, .int .u64 0, .bool false])) ∧ Below w.heap.size w w' := by
  obtain ⟨q, hq⟩ : ∃ q, q = Frm.newest l := ⟨_, rfl⟩
  have hq2 : q < 18446744073709551616 := by rw [hq]; exact newest_lt l
  have HT := Lib.hid hT
  have HR := Lib.hid hr
  have HL := Lib.hid hl
  have HQ := Lib.hid hq
  have HQ2 := Lib.hid hq2
  have hgm : gets l a k → may a q (Frm.held l).length = 0 ∧ l = Frm.frame a.toNat k q (Frm.held l) := by
    rintro ⟨h1, h2, h3, h4⟩
    rw [← hq] at h3 h4
    exact ⟨(may_zero _ _ _).2 ⟨h1, by omega, by omega, Frm.held_le l⟩, h4⟩
  have hmg : may a q (Frm.held l).length = 0 → l = Frm.frame a.toNat k q (Frm.held l) → gets l a k := by
    intro h1 h2
    obtain ⟨h3, h4, h5, h6⟩ := (may_zero _ _ _).1 h1
    refine ⟨h3, by omega, by omega, ?_⟩
    rw [← hq]; exact h2
  rw [← hq]
  have HA := Lib.hid hgm
  have HB := Lib.hid hmg
  clear hT hr hl hq hq2 hgm hmg
  by_cases hm : may a q (Frm.held l).length = 0
  · by_cases he : l = Frm.frame a.toNat k q (Frm.held l)
    · have hg := HB.out hm he
      have HE := Lib.hid he
      have HM := Lib.hid hm
      have HG := Lib.hid hg
      clear hm he hg
      have hd : decide (l = Frm.frame a.toNat k q (Frm.held l)) = true := by rw [decide_eq_true_eq]; exact HE.out
      have HD := Lib.hid hd
      clear hd
      go_enter Tryz.func38, Tryz.ntmps38
      go_wp2_with (first
        | (go_at_call 73; refine (held_any g o c l w HR.out HL.out).mono ?_; rintro e w1 ⟨v1, rfl, ho1, hb1⟩; obtain ⟨A1, c1, rfl, hr1, _⟩ := ho1.form; have O1 := Lib.hid ho1; have R1 := Lib.hid hr1; have B1 := Lib.hid hb1; have P1 := Lib.hid ((HR.out.below hb1).more hb1.size); clear ho1 hr1 hb1)
        | (go_at_call 74; refine (Newest_any _ 4096 c l w1 P1.out HL.out).mono ?_; rintro e w2 ⟨rfl, hb2⟩; rw [← HQ.out]; have B2 := Lib.hid (B1.out.trans (hb2.mono B1.out.size)); have P2 := Lib.hid ((P1.out.below hb2).more hb2.size); have R2 := Lib.hid ((R1.out.below hb2).more hb2.size); have O2 := Lib.hid (O1.out.below hb2 (Nat.le_refl _)); clear hb2)
        | (go_at_call 44; refine (Put_any a k q A1 _ c1 (Frm.held l) w2 (HT.out.below B2.out HT.out.1) hk HQ2.out R2.out rfl).mono ?_; rintro e w3 ⟨v3, rfl, ho3, _, hb3⟩; rw [HM.out]; obtain ⟨A3, c3, rfl, hr3, _⟩ := (ho3 HM.out).form; have R3 := Lib.hid hr3; have B3 := Lib.hid (B2.out.trans (hb3.mono B2.out.size)); have P3 := Lib.hid ((P2.out.below hb3).more hb3.size); have O3 := Lib.hid (O2.out.below hb3 (Nat.le_refl _)); clear ho3 hr3 hb3)
        | (go_at_call 75; refine (Equal_any _ A3 c c3 4096 _ l _ w3 P3.out R3.out HL.out rfl).mono ?_; rintro e w4 ⟨rfl, rfl⟩; rw [HD.out]; clear HD)
        | fail)
      go_ret3
      exact ⟨fun _ => ⟨_, rfl, O3.out⟩, fun h => absurd HG.out h, B3.out⟩
    · have hg : ¬ gets l a k := fun h => he (HA.out h).2
      have HE := Lib.hid he
      have HM := Lib.hid hm
      have HG := Lib.hid hg
      clear hm he hg
      have hd : decide (l = Frm.frame a.toNat k q (Frm.held l)) = false := by rw [decide_eq_false_iff_not]; exact HE.out
      have HD := Lib.hid hd
      clear hd
      go_enter Tryz.func38, Tryz.ntmps38
      go_wp2_with (first
        | (go_at_call 73; refine (held_any g o c l w HR.out HL.out).mono ?_; rintro e w1 ⟨v1, rfl, ho1, hb1⟩; obtain ⟨A1, c1, rfl, hr1, _⟩ := ho1.form; have O1 := Lib.hid ho1; have R1 := Lib.hid hr1; have B1 := Lib.hid hb1; have P1 := Lib.hid ((HR.out.below hb1).more hb1.size); clear ho1 hr1 hb1)
        | (go_at_call 74; refine (Newest_any _ 4096 c l w1 P1.out HL.out).mono ?_; rintro e w2 ⟨rfl, hb2⟩; rw [← HQ.out]; have B2 := Lib.hid (B1.out.trans (hb2.mono B1.out.size)); have P2 := Lib.hid ((P1.out.below hb2).more hb2.size); have R2 := Lib.hid ((R1.out.below hb2).more hb2.size); have O2 := Lib.hid (O1.out.below hb2 (Nat.le_refl _)); clear hb2)
        | (go_at_call 44; refine (Put_any a k q A1 _ c1 (Frm.held l) w2 (HT.out.below B2.out HT.out.1) hk HQ2.out R2.out rfl).mono ?_; rintro e w3 ⟨v3, rfl, ho3, _, hb3⟩; rw [HM.out]; obtain ⟨A3, c3, rfl, hr3, _⟩ := (ho3 HM.out).form; have R3 := Lib.hid hr3; have B3 := Lib.hid (B2.out.trans (hb3.mono B2.out.size)); have P3 := Lib.hid ((P2.out.below hb3).more hb3.size); have O3 := Lib.hid (O2.out.below hb3 (Nat.le_refl _)); clear ho3 hr3 hb3)
        | (go_at_call 75; refine (Equal_any _ A3 c c3 4096 _ l _ w3 P3.out R3.out HL.out rfl).mono ?_; rintro e w4 ⟨rfl, rfl⟩; rw [HD.out]; clear HD)
        | fail)
      go_ret3
      exact ⟨fun h => absurd h HG.out, fun _ => rfl, B3.out⟩
  · have hg : ¬ gets l a k := fun h => hm (HA.out h).1
    have HG := Lib.hid hg
    have hm2 : ¬ may a q (Frm.held l).length = 0 := hm
    have HM := Lib.hid hm
    clear hg hm
    obtain ⟨mm, hmm⟩ : ∃ mm, may a q (Frm.held l).length = mm := ⟨_, rfl⟩
    rw [hmm] at hm2
    have HMM := Lib.hid hmm
    clear hmm
    go_enter Tryz.func38, Tryz.ntmps38
    go_wp2_with (first
      | (go_at_call 73; refine (held_any g o c l w HR.out HL.out).mono ?_; rintro e w1 ⟨v1, rfl, ho1, hb1⟩; obtain ⟨A1, c1, rfl, hr1, _⟩ := ho1.form; have O1 := Lib.hid ho1; have R1 := Lib.hid hr1; have B1 := Lib.hid hb1; have P1 := Lib.hid ((HR.out.below hb1).more hb1.size); clear ho1 hr1 hb1)
      | (go_at_call 74; refine (Newest_any _ 4096 c l w1 P1.out HL.out).mono ?_; rintro e w2 ⟨rfl, hb2⟩; rw [← HQ.out]; have B2 := Lib.hid (B1.out.trans (hb2.mono B1.out.size)); have P2 := Lib.hid ((P1.out.below hb2).more hb2.size); have R2 := Lib.hid ((R1.out.below hb2).more hb2.size); clear hb2)
      | (go_at_call 44; refine (Put_any a k q A1 _ c1 (Frm.held l) w2 (HT.out.below B2.out HT.out.1) hk HQ2.out R2.out rfl).mono ?_; rintro e w3 ⟨v3, rfl, _, hv3, hb3⟩; rw [HMM.out]; obtain rfl := hv3 HM.out; have B3 := Lib.hid (B2.out.trans (hb3.mono B2.out.size)); clear hb3)
      | fail)
    go_ret3
    exact ⟨fun h => absurd h HG.out, fun _ => rfl, B3.out⟩

/-- Every Get. -/
theorem Get_any (A : Option Addr) (n c : Nat) (l : List UInt8) (a : Int) (k : Nat) (w : World) (hT : Tab w) (hr : Rd w w.heap.size A c l) (hn : l.length = n) (hk : k < 256) :
    Calls Tryz.prog 38 #[.slice A n c, .int .i64 a, .int .u8 k] w fun e w' =>
      (gets l a k → ∃ v, e = .returned (.tuple #[v, .int .u64 (Frm.newest l : Int), .bool true]) ∧ Mem.Own 5 w' w.heap.size v (Frm.held l)) ∧ (¬ gets l a k → e = .returned (.tuple #[.slice none 0 0, .int .u64 0, .bool false])) ∧ Below w.heap.size w w' := by
  by_cases h : n = 4096
  · subst h
    obtain ⟨g, o, rfl, _⟩ := hr.2.2.2 (by omega)
    exact get_page g o c l a k w hT hr hn hk
  · refine (get_short A n c a k w (by have := hr.1; have := hr.2.1; unfold maxLen at this; omega) h).mono ?_
    rintro e w' ⟨rfl, rfl⟩
    exact ⟨fun hg => absurd (Frm.length_whole _ _ _ hg.2) (by omega), fun _ => rfl, Below.refl _ _⟩
theorem get_yes {A : Option Addr} {n c : Nat} {l : List UInt8} {a : Int} {k : Nat} {w : World} (hT : Tab w) (hr : Rd w w.heap.size A c l) (hn : l.length = n) (hk : k < 256) (hg : gets l a k) (s : Nat) (hs : Frm.newest l = s) (b : List UInt8) (hb : Frm.held l = b) :
    Calls Tryz.prog 38 #[.slice A n c, .int .i64 a, .int .u8 k] w fun e w' => ∃ v, e = .returned (.tuple #[v, .int .u64 (s : Int), .bool true]) ∧ Mem.Own 5 w' w.heap.size v b ∧ Below w.heap.size w w' := by
  subst hs; subst hb
  refine (Get_any A n c l a k w hT hr hn hk).mono ?_
  rintro e w' ⟨h1, _, h3⟩
  obtain ⟨v, he, ho⟩ := h1 hg
  exact ⟨v, he, ho, h3⟩
theorem get_no {A : Option Addr} {n c : Nat} {l : List UInt8} {a : Int} {k : Nat} {w : World} (hT : Tab w) (hr : Rd w w.heap.size A c l) (hn : l.length = n) (hk : k < 256) (hg : ¬ gets l a k) :
    Calls Tryz.prog 38 #[.slice A n c, .int .i64 a, .int .u8 k] w fun e w' => e = .returned (.tuple #[.slice none 0 0, .int .u64 0, .bool false]) ∧ Below w.heap.size w w' := by
  refine (Get_any A n c l a k w hT hr hn hk).mono ?_
  rintro e w' ⟨_, h2, h3⟩
  exact ⟨h2 hg, h3⟩
theorem tab_low {w w' : World} (h : Tab w) (hb : Below w.heap.size w w') : Tab w' := h.below hb h.1
end Go.Proofs.YtnpebfolmdbipaaGreatDoor.Fm
