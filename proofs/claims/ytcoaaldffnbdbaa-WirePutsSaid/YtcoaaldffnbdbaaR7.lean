import Derived.Test.YtcoaaldffnbdbaaR5
import Derived.Test.YtcoaaldffnbdbaaL9
import Derived.Deep.RegionHeld3
namespace Go.Proofs.Ytcoaaldffnbdbaa
open Go.RowKit Mem

theorem str_append (p q : List UInt8) : str p ++ str q = str (p ++ q) := by
  apply ByteArray.ext
  apply Array.toList_inj.1
  simp [str, ByteArray.data_append]
theorem str_add (W : World) (p q : List UInt8) (h : p.length + q.length ≤ 9223372036854775807) : (Op.stringOp .add (str p) (str q)).run Try.prog W = .ok (.string (str (p ++ q))) W := by
  have e1 : (str p).size = p.length := by show p.toArray.size = p.length; simp
  have e2 : (str q).size = q.length := by show q.toArray.size = q.length; simp
  unfold Op.stringOp
  simp only [e1, e2]
  rw [if_neg (by simp [IntKind.max, IntKind.bits, IntKind.signed]; omega), str_append]
  rfl
theorem str_size (p : List UInt8) : (str p).size = p.length := by
  show p.toArray.size = p.length
  simp
set_option maxRecDepth 100000 in
set_option maxHeartbeats 20000000 in
theorem wirePuts_walk (A : Option Addr) (n c : Nat) (l : List UInt8) (hl : l.length = n) (A1 : Option Addr) (n1 c1 : Nat) (l1 : List UInt8) (hl1 : l1.length = n1) (a : Int) (x : Int) (w : World)
    (hr : Rd w w.heap.size A c l) (hr1 : Rd w w.heap.size A1 c1 l1) (wa : (Lit.int .u64 a).wf = true) (wx : (Lit.int .u8 x).wf = true) :
    Calls Try.prog 3 #[.slice A n c, .slice A1 n1 c1, .int .u64 a, .int .u8 x] w fun e w' => e = .returned (.bool true) ∧ Below w.heap.size w w' := by
  obtain ⟨a0, a1⟩ := bounds_u64 wa
  obtain ⟨x0, x1⟩ := bounds_u8 wx
  clear wa wx
  subst hl; subst hl1
  by_cases hbig : 1000 < l.length
  · have hbig' : (1000 : Int) < (l.length : Int) := by omega
    clear a1
    go_enter Try.func3, Try.ntmps3
    go_wp2
    go_ret
    exact ⟨rfl, Below.refl _ _⟩
  · by_cases hbig2 : 1000 < l1.length
    · have hsmall : (l.length : Int) ≤ 1000 := by omega
      have hbig' : (1000 : Int) < (l1.length : Int) := by omega
      clear a1
      go_enter Try.func3, Try.ntmps3
      go_wp2
      go_ret
      exact ⟨rfl, Below.refl _ _⟩
    · have hsmall : (l.length : Int) ≤ 1000 := by omega
      have hsmall2 : (l1.length : Int) ≤ 1000 := by omega
      have hsm : l.length ≤ 1000 := by omega
      have hsm1 : l1.length ≤ 1000 := by omega
      have HR := Lib.hid hr
      have HR1 := Lib.hid hr1
      have A1' := Lib.hid a1
      have HO0 := Lib.hid (Own.lit 5 w [] w.heap.size (Nat.le_refl _) (Nat.zero_le _))
      clear hr hr1 hbig hbig2 a1
      go_enter Try.func3, Try.ntmps3
      go_wp2_with (first
        | (at_builtin; refine wpList_append_rd byteTy rfl (.tmp 24) (.tmp 25) rfl w.heap.size _ [] rfl HO0.out w.heap.size _ _ _ _ rfl rfl (HR.out.alloc (Nat.le_refl _) _) (by simp; omega) (by simp) ?_; intro v2 w2 hown2 hg2 hat2; rw [List.nil_append] at hown2; have HO2 := Lib.hid hown2; have HB2 : Hid (Below w.heap.size w w2) := Lib.hid (own_trans ((Below.refl _ w).alloc (Nat.le_refl _) _) hg2 (fun k hk => by change some w.heap.size = some k at hk; injection hk; omega)); have HR9 := Lib.hid (rd_lit w2 [9] #[.int .u8 9] (by rfl) (by simp)); clear hown2 hg2 hat2)
        | (at_builtin; refine wpList_append_rd byteTy rfl (.tmp 26) (.tmp 27) rfl w.heap.size _ l rfl (HO2.out.below ((Below.refl _ w2).alloc (Nat.le_refl _) _) (Nat.le_refl _)) _ _ _ _ [9] rfl rfl HR9.out (by simp; omega) (by simp; have := HB2.out.size; omega) ?_; intro v3 w3 hown3 hg3 hat3; obtain ⟨g3, c3, rfl, hg3', cur, hcur, hlc3, hcm3, hcs3, hct3⟩ := own_block hown3 (by simp); have HB3 := Lib.hid (own_trans (HB2.out.alloc HB2.out.size _) hg3 (fun q hq => (HO2.out.lt q hq).1)); have HO3 := Lib.hid hown3; have HG3 := Lib.hid hg3'; unfold maxLen at hcm3; simp at hlc3; clear hown3 hg3 hat3 hcur hcs3 hct3 hg3' cur))
      obtain ⟨A4, c4, he4, hr4, hlt4, _⟩ := HO3.out.form
      injection he4 with he4 _ he5
      subst he4; subst he5
      have hr5 := hr4.take l.length
      rw [List.take_left] at hr5
      have HX := Lib.hid hr4
      have HIN := Lib.hid hr5
      have HL3 := Lib.hid (hlt4 g3 rfl).2
      clear hr4 hr5 hlt4
      refine (Byte_any _ _ l x _ HIN.out (by omega) x0 (by omega)).mono ?_
      rintro e w4 ⟨v4, rfl, hown, hb⟩
      have HO4 := Lib.hid hown; have Hb4 := Lib.hid hb; clear hown hb
      go_wp2_with fail
      refine (Uint_any _ _ l a _ ((HIN.out.below Hb4.out).more Hb4.out.size) (by omega) a0 (by have := A1'.out; omega)).mono ?_
      rintro e w5 ⟨v5, rfl, hown, hb⟩
      have HO5 := Lib.hid hown; have Hb5 := Lib.hid (Hb4.out.trans (hb.mono Hb4.out.size)); have HO4 := Lib.hid (HO4.out.below hb (Nat.le_refl _)); clear hown hb
      go_wp2_with fail
      refine (Int_any _ _ l _ _ ((HIN.out.below Hb5.out).more Hb5.out.size) (by omega)).mono ?_
      rintro e w6 ⟨v6, rfl, hown, hb⟩
      have HO6 := Lib.hid hown; have Hb6 := Lib.hid (Hb5.out.trans (hb.mono Hb5.out.size)); have HO4 := Lib.hid (HO4.out.below hb (Nat.le_refl _)); have HO5 := Lib.hid (HO5.out.below hb (Nat.le_refl _)); clear hown hb
      go_wp2_with fail
      refine (Text_any _ _ l _ _ l1 _ ((HIN.out.below Hb6.out).more Hb6.out.size) (by omega) ((HR1.out.below HB3.out).below (Hb6.out.mono HB3.out.size) |>.more (Nat.le_trans HB3.out.size Hb6.out.size)) (by omega)).mono ?_
      rintro e w7 ⟨v7, rfl, hown, hb⟩
      have HO7 := Lib.hid hown; have Hb7 := Lib.hid (Hb6.out.trans (hb.mono Hb6.out.size)); have HO4 := Lib.hid (HO4.out.below hb (Nat.le_refl _)); have HO5 := Lib.hid (HO5.out.below hb (Nat.le_refl _)); have HO6 := Lib.hid (HO6.out.below hb (Nat.le_refl _)); clear hown hb
      have hcvb := run_str_rd w7 ((HR.out.below HB3.out).below (Hb7.out.mono HB3.out.size))
      go_wp2_with fail
      clear hcvb
      have hun : unsig (wrap64 a) = a.toNat := unsig_wrap64 a a0 (by have := A1'.out; omega)
      have hx64 : IntKind.u64.wrap x = x := IntWalk.u64_in x ⟨x0, by omega⟩
      have HO6' : Hid (Own 5 w7 w5.heap.size v6 (l ++ be 8 a.toNat)) := Lib.hid (by have := HO6.out; rw [hun] at this; exact this)
      have HP : Hid (∀ W, Below w7.heap.size w7 W → ((convert 22 9 v4).run Try.prog W = .ok (.string (str (l ++ be 1 x.toNat))) W ∧ (convert 22 9 v5).run Try.prog W = .ok (.string (str (l ++ be 8 a.toNat))) W ∧ (convert 22 9 v6).run Try.prog W = .ok (.string (str (l ++ be 8 a.toNat))) W ∧ (convert 22 9 v7).run Try.prog W = .ok (.string (str (l ++ (be 4 l1.length ++ l1)))) W ∧ (convert 22 9 (.slice (some ⟨g3, 0, none⟩) l.length c3)).run Try.prog W = .ok (.string (str l)) W ∧ W.cell? ⟨g3, l.length, none⟩ = some (.int .u8 9))) :=
        Lib.hid fun W hW => ⟨run_str_own W (HO4.out.below hW (Nat.le_refl _)), run_str_own W (HO5.out.below hW (Nat.le_refl _)), run_str_own W (HO6'.out.below hW (Nat.le_refl _)), run_str_own W (HO7.out.below hW (Nat.le_refl _)), run_str_rd W ((HIN.out.below Hb7.out).below (hW.mono Hb7.out.size)), by
          obtain ⟨b, o, e, _, hc⟩ := HX.out.2.2.2 (by simp)
          simp at e
          obtain ⟨rfl, rfl⟩ := e
          have := hc l.length (by simp)
          rw [Nat.zero_add] at this
          have h7 := (Hb7.out.cell (p := ⟨g3, l.length, none⟩) HL3.out).trans this
          rw [hW.cell (p := ⟨g3, l.length, none⟩) (Nat.lt_of_lt_of_le HL3.out Hb7.out.size), h7]
          simp⟩
      have HN1 : Hid (∀ W, Calls Try.prog 14 #[.int .u64 (IntKind.u64.wrap x), .int .i64 1] W fun e w' => ∃ v', e = .returned v' ∧ Own 5 w' W.heap.size v' (be 1 x.toNat) ∧ Below W.heap.size W w') := Lib.hid fun W => by rw [hx64]; exact Number_any x 1 W x0 (by omega) (by omega)
      have HN2 : Hid (∀ W, Calls Try.prog 14 #[.int .u64 a, .int .i64 8] W fun e w' => ∃ v', e = .returned v' ∧ Own 5 w' W.heap.size v' (be 8 a.toNat) ∧ Below W.heap.size W w') := Lib.hid fun W => Number_any a 8 W a0 A1'.out (by omega)
      have HT1 : Hid (∀ W, Below w7.heap.size w7 W → Rd W W.heap.size A1 c1 l1) := Lib.hid fun W hW => ((HR1.out.below HB3.out).below (Hb7.out.mono HB3.out.size) |>.below (hW.mono (Nat.le_trans HB3.out.size Hb7.out.size))).more (Nat.le_trans (Nat.le_trans HB3.out.size Hb7.out.size) hW.size)
      have hst := str_toList
      have hsa : ∀ p q, str p ++ str q = str (p ++ q) := str_append
      have hsz : ∀ p, (str p).size = p.length := str_size
      have hl1 : (be 1 x.toNat).length = 1 := length_be _ _
      have hl8 : (be 8 a.toNat).length = 8 := length_be _ _
      have hl4 : (be 4 l1.length ++ l1).length = 4 + l1.length := by simp [length_be]
      have hadd1 := fun W => str_add W l (be 1 x.toNat) (by rw [hl1]; omega)
      have hadd2 := fun W => str_add W l (be 8 a.toNat) (by rw [hl8]; omega)
      have hadd3 := fun W => str_add W l (be 4 l1.length ++ l1) (by rw [hl4]; omega)
      have hix1 : (0 : Int) ≤ (l.length : Int) := by omega
      have hix2 : (l.length : Int) < (l.length : Int) + 1 := by omega
      clear hun hx64 hsz hl1 hl8 hl4 hsa
      refine wp_region_held_drew (S := (fun W => Below w7.heap.size w7 W ∧ (convert 22 9 v4).run Try.prog W = .ok (.string (str (l ++ be 1 x.toNat))) W ∧ (convert 22 9 v5).run Try.prog W = .ok (.string (str (l ++ be 8 a.toNat))) W ∧ (convert 22 9 v6).run Try.prog W = .ok (.string (str (l ++ be 8 a.toNat))) W ∧ (convert 22 9 v7).run Try.prog W = .ok (.string (str (l ++ (be 4 l1.length ++ l1)))) W ∧ (convert 22 9 (.slice (some ⟨g3, 0, none⟩) l.length c3)).run Try.prog W = .ok (.string (str l)) W ∧ W.cell? ⟨g3, l.length, none⟩ = some (.int .u8 9))) (by kernel_rfl) ⟨(Below.refl _ _).drew, HP.out _ ((Below.refl _ _).drew)⟩ (fun hHeld => ?_)
      refine wpAnyH_take (i := 0) (v := ?_) rfl (by kernel_rfl) (by kernel_rfl) (by kernel_rfl) (fun _ _ _ h => h) (Or.inl ⟨by rfl, ?_⟩) (by assumption) ?_
      rotate_left 1
      · intro w hSw; (try dsimp only at hSw); go_simp; try (with_reducible rfl)
      try simp only [Act.put, List.getElem_toArray, List.getElem_cons_zero, List.setIfInBounds_toArray, List.set_cons_zero, List.set_cons_succ]
      refine wpAnyH_take (i := 1) (v := ?_) rfl (by kernel_rfl) (by kernel_rfl) (by kernel_rfl) (fun _ _ _ h => h) (Or.inl ⟨by rfl, ?_⟩) (by assumption) ?_
      rotate_left 1
      · intro w hSw; (try dsimp only at hSw); go_simp; try (with_reducible rfl)
      try simp only [Act.put, List.getElem_toArray, List.getElem_cons_zero, List.getElem_cons_succ, List.setIfInBounds_toArray, List.set_cons_zero, List.set_cons_succ]
      refine wpAnyH_take (i := 2) (v := ?_) rfl (by kernel_rfl) (by kernel_rfl) (by kernel_rfl) (fun _ _ _ h => h) (Or.inl ⟨by rfl, ?_⟩) (by assumption) ?_
      rotate_left 1
      · intro w hSw; (try dsimp only at hSw); go_simp; try (with_reducible rfl)
      try simp only [Act.put, List.getElem_toArray, List.getElem_cons_zero, List.getElem_cons_succ, List.setIfInBounds_toArray, List.set_cons_zero, List.set_cons_succ]
      refine wpAnyH_take (i := 3) (v := ?_) rfl (by kernel_rfl) (by kernel_rfl) (by kernel_rfl) (fun _ _ _ h => h) (Or.inl ⟨by rfl, ?_⟩) (by assumption) ?_
      rotate_left 1
      · intro w hSw; (try dsimp only at hSw); go_simp; try (with_reducible rfl)
      try simp only [Act.put, List.getElem_toArray, List.getElem_cons_zero, List.getElem_cons_succ, List.setIfInBounds_toArray, List.set_cons_zero, List.set_cons_succ]
      refine wpAnyH_take (i := 4) (v := ?_) rfl (by kernel_rfl) (by kernel_rfl) (by kernel_rfl) (fun _ _ _ h => h) (Or.inl ⟨by rfl, ?_⟩) (by assumption) ?_
      rotate_left 1
      · intro w hSw; (try dsimp only at hSw); go_simp; try (with_reducible rfl)
      try simp only [Act.put, List.getElem_toArray, List.getElem_cons_zero, List.getElem_cons_succ, List.setIfInBounds_toArray, List.set_cons_zero, List.set_cons_succ]
      refine wpAnyH_ready (rs := [5]) (by kernel_rfl) (by simp) ?_
      refine AllReadyH.cons rfl (fun K hK => ?_) AllReadyH.nil
      go_simp
      refine (HN1.out _).mono ?_; rintro e W ⟨v, rfl, hown, hb⟩; have hcv := run_str_own W hown; have hb0 := hHeld.1; have hbN := hb0.trans (hb.mono hb0.size); clear hown hb hb0 hHeld
      go_wp2_with fail
      refine hK.out _ _ ?_ (fun hHeld => ?_)
      · first | exact ⟨hbN, HP.out _ hbN⟩ | exact ⟨(Below.refl _ _).drew, HP.out _ ((Below.refl _ _).drew)⟩
      clear hK K
      try simp only [Act.put, List.getElem_toArray, List.getElem_cons_zero, List.getElem_cons_succ, List.setIfInBounds_toArray, List.set_cons_zero, List.set_cons_succ]
      refine wpAnyH_ready (rs := [6]) (by kernel_rfl) (by simp) ?_
      refine AllReadyH.cons rfl (fun K hK => ?_) AllReadyH.nil
      go_simp
      skip
      refine hK.out _ _ ?_ (fun hHeld => ?_)
      · first | exact ⟨hbN, HP.out _ hbN⟩ | exact ⟨(Below.refl _ _).drew, HP.out _ ((Below.refl _ _).drew)⟩
      clear hK K
      try simp only [Act.put, List.getElem_toArray, List.getElem_cons_zero, List.getElem_cons_succ, List.setIfInBounds_toArray, List.set_cons_zero, List.set_cons_succ]
      refine wpAnyH_take (i := 7) (v := ?_) rfl (by kernel_rfl) (by kernel_rfl) (by kernel_rfl) (fun _ _ _ h => h) (Or.inl ⟨by rfl, ?_⟩) (by assumption) ?_
      rotate_left 1
      · intro w hSw; (try dsimp only at hSw); go_simp; try (with_reducible rfl)
      try simp only [Act.put, List.getElem_toArray, List.getElem_cons_zero, List.getElem_cons_succ, List.setIfInBounds_toArray, List.set_cons_zero, List.set_cons_succ]
      refine wpAnyH_take (i := 8) (v := ?_) rfl (by kernel_rfl) (by kernel_rfl) (by kernel_rfl) (fun _ _ _ h => h) (Or.inl ⟨by rfl, ?_⟩) (by assumption) ?_
      rotate_left 1
      · intro w hSw; (try dsimp only at hSw); go_simp; try (with_reducible rfl)
      try simp only [Act.put, List.getElem_toArray, List.getElem_cons_zero, List.getElem_cons_succ, List.setIfInBounds_toArray, List.set_cons_zero, List.set_cons_succ]
      refine wpAnyH_take (i := 9) (v := ?_) rfl (by kernel_rfl) (by kernel_rfl) (by kernel_rfl) (fun _ _ _ h => h) (Or.inl ⟨by rfl, ?_⟩) (by assumption) ?_
      rotate_left 1
      · intro w hSw; (try dsimp only at hSw); go_simp; try (with_reducible rfl)
      try simp only [Act.put, List.getElem_toArray, List.getElem_cons_zero, List.getElem_cons_succ, List.setIfInBounds_toArray, List.set_cons_zero, List.set_cons_succ]
      refine wpAnyH_take (i := 10) (v := ?_) rfl (by kernel_rfl) (by kernel_rfl) (by kernel_rfl) (fun _ _ _ h => h) (Or.inl ⟨by rfl, ?_⟩) (by assumption) ?_
      rotate_left 1
      · intro w hSw; (try dsimp only at hSw); go_simp; try (with_reducible rfl)
      try simp only [Act.put, List.getElem_toArray, List.getElem_cons_zero, List.getElem_cons_succ, List.setIfInBounds_toArray, List.set_cons_zero, List.set_cons_succ]
      refine wpAnyH_take (i := 11) (v := ?_) rfl (by kernel_rfl) (by kernel_rfl) (by kernel_rfl) (fun _ _ _ h => h) (Or.inl ⟨by rfl, ?_⟩) (by assumption) ?_
      rotate_left 1
      · intro w hSw; (try dsimp only at hSw); go_simp; try (with_reducible rfl)
      try simp only [Act.put, List.getElem_toArray, List.getElem_cons_zero, List.getElem_cons_succ, List.setIfInBounds_toArray, List.set_cons_zero, List.set_cons_succ]
      refine wpAnyH_take (i := 12) (v := ?_) rfl (by kernel_rfl) (by kernel_rfl) (by kernel_rfl) (fun _ _ _ h => h) (Or.inl ⟨by rfl, ?_⟩) (by assumption) ?_
      rotate_left 1
      · intro w hSw; (try dsimp only at hSw); go_simp; try (with_reducible rfl)
      try simp only [Act.put, List.getElem_toArray, List.getElem_cons_zero, List.getElem_cons_succ, List.setIfInBounds_toArray, List.set_cons_zero, List.set_cons_succ]
      refine wpAnyH_take (i := 13) (v := ?_) rfl (by kernel_rfl) (by kernel_rfl) (by kernel_rfl) (fun _ _ _ h => h) (Or.inl ⟨by rfl, ?_⟩) (by assumption) ?_
      rotate_left 1
      · intro w hSw; (try dsimp only at hSw); go_simp; try (with_reducible rfl)
      try simp only [Act.put, List.getElem_toArray, List.getElem_cons_zero, List.getElem_cons_succ, List.setIfInBounds_toArray, List.set_cons_zero, List.set_cons_succ]
      refine wpAnyH_ready (rs := [14]) (by kernel_rfl) (by simp) ?_
      refine AllReadyH.cons rfl (fun K hK => ?_) AllReadyH.nil
      go_simp
      refine (HN2.out _).mono ?_; rintro e W ⟨v, rfl, hown, hb⟩; have hcv := run_str_own W hown; have hb0 := hHeld.1; have hbN := hb0.trans (hb.mono hb0.size); clear hown hb hb0 hHeld
      go_wp2_with fail
      refine hK.out _ _ ?_ (fun hHeld => ?_)
      · first | exact ⟨hbN, HP.out _ hbN⟩ | exact ⟨(Below.refl _ _).drew, HP.out _ ((Below.refl _ _).drew)⟩
      clear hK K
      try simp only [Act.put, List.getElem_toArray, List.getElem_cons_zero, List.getElem_cons_succ, List.setIfInBounds_toArray, List.set_cons_zero, List.set_cons_succ]
      refine wpAnyH_ready (rs := [15]) (by kernel_rfl) (by simp) ?_
      refine AllReadyH.cons rfl (fun K hK => ?_) AllReadyH.nil
      go_simp
      skip
      refine hK.out _ _ ?_ (fun hHeld => ?_)
      · first | exact ⟨hbN, HP.out _ hbN⟩ | exact ⟨(Below.refl _ _).drew, HP.out _ ((Below.refl _ _).drew)⟩
      clear hK K
      try simp only [Act.put, List.getElem_toArray, List.getElem_cons_zero, List.getElem_cons_succ, List.setIfInBounds_toArray, List.set_cons_zero, List.set_cons_succ]
      refine wpAnyH_take (i := 16) (v := ?_) rfl (by kernel_rfl) (by kernel_rfl) (by kernel_rfl) (fun _ _ _ h => h) (Or.inl ⟨by rfl, ?_⟩) (by assumption) ?_
      rotate_left 1
      · intro w hSw; (try dsimp only at hSw); go_simp; try (with_reducible rfl)
      try simp only [Act.put, List.getElem_toArray, List.getElem_cons_zero, List.getElem_cons_succ, List.setIfInBounds_toArray, List.set_cons_zero, List.set_cons_succ]
      refine wpAnyH_take (i := 17) (v := ?_) rfl (by kernel_rfl) (by kernel_rfl) (by kernel_rfl) (fun _ _ _ h => h) (Or.inl ⟨by rfl, ?_⟩) (by assumption) ?_
      rotate_left 1
      · intro w hSw; (try dsimp only at hSw); go_simp; try (with_reducible rfl)
      try simp only [Act.put, List.getElem_toArray, List.getElem_cons_zero, List.getElem_cons_succ, List.setIfInBounds_toArray, List.set_cons_zero, List.set_cons_succ]
      refine wpAnyH_take (i := 18) (v := ?_) rfl (by kernel_rfl) (by kernel_rfl) (by kernel_rfl) (fun _ _ _ h => h) (Or.inl ⟨by rfl, ?_⟩) (by assumption) ?_
      rotate_left 1
      · intro w hSw; (try dsimp only at hSw); go_simp; try (with_reducible rfl)
      try simp only [Act.put, List.getElem_toArray, List.getElem_cons_zero, List.getElem_cons_succ, List.setIfInBounds_toArray, List.set_cons_zero, List.set_cons_succ]
      refine wpAnyH_take (i := 19) (v := ?_) rfl (by kernel_rfl) (by kernel_rfl) (by kernel_rfl) (fun _ _ _ h => h) (Or.inl ⟨by rfl, ?_⟩) (by assumption) ?_
      rotate_left 1
      · intro w hSw; (try dsimp only at hSw); go_simp; try (with_reducible rfl)
      try simp only [Act.put, List.getElem_toArray, List.getElem_cons_zero, List.getElem_cons_succ, List.setIfInBounds_toArray, List.set_cons_zero, List.set_cons_succ]
      refine wpAnyH_take (i := 20) (v := ?_) rfl (by kernel_rfl) (by kernel_rfl) (by kernel_rfl) (fun _ _ _ h => h) (Or.inl ⟨by rfl, ?_⟩) (by assumption) ?_
      rotate_left 1
      · intro w hSw; (try dsimp only at hSw); go_simp; try (with_reducible rfl)
      try simp only [Act.put, List.getElem_toArray, List.getElem_cons_zero, List.getElem_cons_succ, List.setIfInBounds_toArray, List.set_cons_zero, List.set_cons_succ]
      refine wpAnyH_take (i := 21) (v := ?_) rfl (by kernel_rfl) (by kernel_rfl) (by kernel_rfl) (fun _ _ _ h => h) (Or.inl ⟨by rfl, ?_⟩) (by assumption) ?_
      rotate_left 1
      · intro w hSw; (try dsimp only at hSw); go_simp; try (with_reducible rfl)
      try simp only [Act.put, List.getElem_toArray, List.getElem_cons_zero, List.getElem_cons_succ, List.setIfInBounds_toArray, List.set_cons_zero, List.set_cons_succ]
      refine wpAnyH_take (i := 22) (v := ?_) rfl (by kernel_rfl) (by kernel_rfl) (by kernel_rfl) (fun _ _ _ h => h) (Or.inl ⟨by rfl, ?_⟩) (by assumption) ?_
      rotate_left 1
      · intro w hSw; (try dsimp only at hSw); go_simp; try (with_reducible rfl)
      try simp only [Act.put, List.getElem_toArray, List.getElem_cons_zero, List.getElem_cons_succ, List.setIfInBounds_toArray, List.set_cons_zero, List.set_cons_succ]
      refine wpAnyH_take (i := 23) (v := ?_) rfl (by kernel_rfl) (by kernel_rfl) (by kernel_rfl) (fun _ _ _ h => h) (Or.inl ⟨by rfl, ?_⟩) (by assumption) ?_
      rotate_left 1
      · intro w hSw; (try dsimp only at hSw); go_simp; try (with_reducible rfl)
      try simp only [Act.put, List.getElem_toArray, List.getElem_cons_zero, List.getElem_cons_succ, List.setIfInBounds_toArray, List.set_cons_zero, List.set_cons_succ]
      refine wpAnyH_take (i := 24) (v := ?_) rfl (by kernel_rfl) (by kernel_rfl) (by kernel_rfl) (fun _ _ _ h => h) (Or.inl ⟨by rfl, ?_⟩) (by assumption) ?_
      rotate_left 1
      · intro w hSw; (try dsimp only at hSw); go_simp; try (with_reducible rfl)
      try simp only [Act.put, List.getElem_toArray, List.getElem_cons_zero, List.getElem_cons_succ, List.setIfInBounds_toArray, List.set_cons_zero, List.set_cons_succ]
      refine wpAnyH_take (i := 25) (v := ?_) rfl (by kernel_rfl) (by kernel_rfl) (by kernel_rfl) (fun _ _ _ h => h) (Or.inl ⟨by rfl, ?_⟩) (by assumption) ?_
      rotate_left 1
      · intro w hSw; (try dsimp only at hSw); go_simp; try (with_reducible rfl)
      try simp only [Act.put, List.getElem_toArray, List.getElem_cons_zero, List.getElem_cons_succ, List.setIfInBounds_toArray, List.set_cons_zero, List.set_cons_succ]
      refine wpAnyH_take (i := 26) (v := ?_) rfl (by kernel_rfl) (by kernel_rfl) (by kernel_rfl) (fun _ _ _ h => h) (Or.inl ⟨by rfl, ?_⟩) (by assumption) ?_
      rotate_left 1
      · intro w hSw; (try dsimp only at hSw); go_simp; try (with_reducible rfl)
      try simp only [Act.put, List.getElem_toArray, List.getElem_cons_zero, List.getElem_cons_succ, List.setIfInBounds_toArray, List.set_cons_zero, List.set_cons_succ]
      refine wpAnyH_take (i := 27) (v := ?_) rfl (by kernel_rfl) (by kernel_rfl) (by kernel_rfl) (fun _ _ _ h => h) (Or.inl ⟨by rfl, ?_⟩) (by assumption) ?_
      rotate_left 1
      · intro w hSw; (try dsimp only at hSw); go_simp; try (with_reducible rfl)
      try simp only [Act.put, List.getElem_toArray, List.getElem_cons_zero, List.getElem_cons_succ, List.setIfInBounds_toArray, List.set_cons_zero, List.set_cons_succ]
      refine wpAnyH_take (i := 28) (v := ?_) rfl (by kernel_rfl) (by kernel_rfl) (by kernel_rfl) (fun _ _ _ h => h) (Or.inl ⟨by rfl, ?_⟩) (by assumption) ?_
      rotate_left 1
      · intro w hSw; (try dsimp only at hSw); go_simp; try (with_reducible rfl)
      try simp only [Act.put, List.getElem_toArray, List.getElem_cons_zero, List.getElem_cons_succ, List.setIfInBounds_toArray, List.set_cons_zero, List.set_cons_succ]
      refine wpAnyH_take (i := 29) (v := ?_) rfl (by kernel_rfl) (by kernel_rfl) (by kernel_rfl) (fun _ _ _ h => h) (Or.inl ⟨by rfl, ?_⟩) (by assumption) ?_
      rotate_left 1
      · intro w hSw; (try dsimp only at hSw); go_simp; try (with_reducible rfl)
      try simp only [Act.put, List.getElem_toArray, List.getElem_cons_zero, List.getElem_cons_succ, List.setIfInBounds_toArray, List.set_cons_zero, List.set_cons_succ]
      refine wpAnyH_take (i := 30) (v := ?_) rfl (by kernel_rfl) (by kernel_rfl) (by kernel_rfl) (fun _ _ _ h => h) (Or.inl ⟨by rfl, ?_⟩) (by assumption) ?_
      rotate_left 1
      · intro w hSw; (try dsimp only at hSw); go_simp; try (with_reducible rfl)
      try simp only [Act.put, List.getElem_toArray, List.getElem_cons_zero, List.getElem_cons_succ, List.setIfInBounds_toArray, List.set_cons_zero, List.set_cons_succ]
      refine wpAnyH_ready (rs := [31]) (by kernel_rfl) (by simp) ?_
      refine AllReadyH.cons rfl (fun K hK => ?_) AllReadyH.nil
      go_simp
      refine (refBytes_any _ _ _ _ _ (HT1.out _ hHeld.1) rfl (by omega)).mono ?_; rintro e W ⟨v, rfl, hown, hb⟩; have hcv := run_str_own W hown; have hb0 := hHeld.1; have hbN := hb0.trans (hb.mono hb0.size); clear hown hb hb0 hHeld
      go_wp2_with fail
      refine hK.out _ _ ?_ (fun hHeld => ?_)
      · first | exact ⟨hbN, HP.out _ hbN⟩ | exact ⟨(Below.refl _ _).drew, HP.out _ ((Below.refl _ _).drew)⟩
      clear hK K
      try simp only [Act.put, List.getElem_toArray, List.getElem_cons_zero, List.getElem_cons_succ, List.setIfInBounds_toArray, List.set_cons_zero, List.set_cons_succ]
      refine wpAnyH_ready (rs := [32]) (by kernel_rfl) (by simp) ?_
      refine AllReadyH.cons rfl (fun K hK => ?_) AllReadyH.nil
      go_simp
      skip
      refine hK.out _ _ ?_ (fun hHeld => ?_)
      · first | exact ⟨hbN, HP.out _ hbN⟩ | exact ⟨(Below.refl _ _).drew, HP.out _ ((Below.refl _ _).drew)⟩
      clear hK K
      try simp only [Act.put, List.getElem_toArray, List.getElem_cons_zero, List.getElem_cons_succ, List.setIfInBounds_toArray, List.set_cons_zero, List.set_cons_succ]
      refine wpAnyH_take (i := 33) (v := ?_) rfl (by kernel_rfl) (by kernel_rfl) (by kernel_rfl) (fun _ _ _ h => h) (Or.inl ⟨by rfl, ?_⟩) (by assumption) ?_
      rotate_left 1
      · intro w hSw; (try dsimp only at hSw); go_simp; try (with_reducible rfl)
      try simp only [Act.put, List.getElem_toArray, List.getElem_cons_zero, List.getElem_cons_succ, List.setIfInBounds_toArray, List.set_cons_zero, List.set_cons_succ]
      refine wpAnyH_take (i := 34) (v := ?_) rfl (by kernel_rfl) (by kernel_rfl) (by kernel_rfl) (fun _ _ _ h => h) (Or.inl ⟨by rfl, ?_⟩) (by assumption) ?_
      rotate_left 1
      · intro w hSw; (try dsimp only at hSw); go_simp; try (with_reducible rfl)
      try simp only [Act.put, List.getElem_toArray, List.getElem_cons_zero, List.getElem_cons_succ, List.setIfInBounds_toArray, List.set_cons_zero, List.set_cons_succ]
      refine wpAnyH_take (i := 35) (v := ?_) rfl (by kernel_rfl) (by kernel_rfl) (by kernel_rfl) (fun _ _ _ h => h) (Or.inl ⟨by rfl, ?_⟩) (by assumption) ?_
      rotate_left 1
      · intro w hSw; (try dsimp only at hSw); go_simp; try (with_reducible rfl)
      try simp only [Act.put, List.getElem_toArray, List.getElem_cons_zero, List.getElem_cons_succ, List.setIfInBounds_toArray, List.set_cons_zero, List.set_cons_succ]
      refine wpAnyH_take (i := 36) (v := ?_) rfl (by kernel_rfl) (by kernel_rfl) (by kernel_rfl) (fun _ _ _ h => h) (Or.inl ⟨by rfl, ?_⟩) (by assumption) ?_
      rotate_left 1
      · intro w hSw; (try dsimp only at hSw); go_simp; try (with_reducible rfl)
      try simp only [Act.put, List.getElem_toArray, List.getElem_cons_zero, List.getElem_cons_succ, List.setIfInBounds_toArray, List.set_cons_zero, List.set_cons_succ]
      refine wpAnyH_take (i := 37) (v := ?_) rfl (by kernel_rfl) (by kernel_rfl) (by kernel_rfl) (fun _ _ _ h => h) (Or.inl ⟨by rfl, ?_⟩) (by assumption) ?_
      rotate_left 1
      · intro w hSw; (try dsimp only at hSw); go_simp; try (with_reducible rfl)
      try simp only [Act.put, List.getElem_toArray, List.getElem_cons_zero, List.getElem_cons_succ, List.setIfInBounds_toArray, List.set_cons_zero, List.set_cons_succ]
      refine wpAnyH_take (i := 38) (v := ?_) rfl (by kernel_rfl) (by kernel_rfl) (by kernel_rfl) (fun _ _ _ h => h) (Or.inl ⟨by rfl, ?_⟩) (by assumption) ?_
      rotate_left 1
      · intro w hSw; (try dsimp only at hSw); go_simp; try (with_reducible rfl)
      try simp only [Act.put, List.getElem_toArray, List.getElem_cons_zero, List.getElem_cons_succ, List.setIfInBounds_toArray, List.set_cons_zero, List.set_cons_succ]
      refine wpAnyH_take (i := 39) (v := ?_) rfl (by kernel_rfl) (by kernel_rfl) (by kernel_rfl) (fun _ _ _ h => h) (Or.inl ⟨by rfl, ?_⟩) (by assumption) ?_
      rotate_left 1
      · intro w hSw; (try dsimp only at hSw); go_simp; try (with_reducible rfl)
      try simp only [Act.put, List.getElem_toArray, List.getElem_cons_zero, List.getElem_cons_succ, List.setIfInBounds_toArray, List.set_cons_zero, List.set_cons_succ]
      refine wpAnyH_take (i := 40) (v := ?_) rfl (by kernel_rfl) (by kernel_rfl) (by kernel_rfl) (fun _ _ _ h => h) (Or.inl ⟨by rfl, ?_⟩) (by assumption) ?_
      rotate_left 1
      · intro w hSw; (try dsimp only at hSw); go_simp; try (with_reducible rfl)
      try simp only [Act.put, List.getElem_toArray, List.getElem_cons_zero, List.getElem_cons_succ, List.setIfInBounds_toArray, List.set_cons_zero, List.set_cons_succ]
      refine wpAnyH_take (i := 41) (v := ?_) rfl (by kernel_rfl) (by kernel_rfl) (by kernel_rfl) (fun _ _ _ h => h) (Or.inl ⟨by rfl, ?_⟩) (by assumption) ?_
      rotate_left 1
      · intro w hSw; (try dsimp only at hSw); go_simp; try (with_reducible rfl)
      try simp only [Act.put, List.getElem_toArray, List.getElem_cons_zero, List.getElem_cons_succ, List.setIfInBounds_toArray, List.set_cons_zero, List.set_cons_succ]
      refine wpAnyH_take (i := 42) (v := ?_) rfl (by kernel_rfl) (by kernel_rfl) (by kernel_rfl) (fun _ _ _ h => h) (Or.inl ⟨by rfl, ?_⟩) (by assumption) ?_
      rotate_left 1
      · intro w hSw; (try dsimp only at hSw); go_simp; try (with_reducible rfl)
      try simp only [Act.put, List.getElem_toArray, List.getElem_cons_zero, List.getElem_cons_succ, List.setIfInBounds_toArray, List.set_cons_zero, List.set_cons_succ]
      refine wpAnyH_take (i := 43) (v := ?_) rfl (by kernel_rfl) (by kernel_rfl) (by kernel_rfl) (fun _ _ _ h => h) (Or.inl ⟨by rfl, ?_⟩) (by assumption) ?_
      rotate_left 1
      · intro w hSw; (try dsimp only at hSw); go_simp; try (with_reducible rfl)
      try simp only [Act.put, List.getElem_toArray, List.getElem_cons_zero, List.getElem_cons_succ, List.setIfInBounds_toArray, List.set_cons_zero, List.set_cons_succ]
      refine wpAnyH_take (i := 44) (v := ?_) rfl (by kernel_rfl) (by kernel_rfl) (by kernel_rfl) (fun _ _ _ h => h) (Or.inl ⟨by rfl, ?_⟩) (by assumption) ?_
      rotate_left 1
      · intro w hSw; (try dsimp only at hSw); go_simp; try (with_reducible rfl)
      try simp only [Act.put, List.getElem_toArray, List.getElem_cons_zero, List.getElem_cons_succ, List.setIfInBounds_toArray, List.set_cons_zero, List.set_cons_succ]
      refine wpAnyH_take (i := 45) (v := ?_) rfl (by kernel_rfl) (by kernel_rfl) (by kernel_rfl) (fun _ _ _ h => h) (Or.inl ⟨by rfl, ?_⟩) (by assumption) ?_
      rotate_left 1
      · intro w hSw; (try dsimp only at hSw); go_simp; try (with_reducible rfl)
      try simp only [Act.put, List.getElem_toArray, List.getElem_cons_zero, List.getElem_cons_succ, List.setIfInBounds_toArray, List.set_cons_zero, List.set_cons_succ]
      refine wpAnyH_take (i := 46) (v := ?_) rfl (by kernel_rfl) (by kernel_rfl) (by kernel_rfl) (fun _ _ _ h => h) (Or.inl ⟨by rfl, ?_⟩) (by assumption) ?_
      rotate_left 1
      · intro w hSw; (try dsimp only at hSw); go_simp; try (with_reducible rfl)
      try simp only [Act.put, List.getElem_toArray, List.getElem_cons_zero, List.getElem_cons_succ, List.setIfInBounds_toArray, List.set_cons_zero, List.set_cons_succ]
      refine wpAnyH_take (i := 47) (v := ?_) rfl (by kernel_rfl) (by kernel_rfl) (by kernel_rfl) (fun _ _ _ h => h) (Or.inl ⟨by rfl, ?_⟩) (by assumption) ?_
      rotate_left 1
      · intro w hSw; (try dsimp only at hSw); go_simp; try (with_reducible rfl)
      try simp only [Act.put, List.getElem_toArray, List.getElem_cons_zero, List.getElem_cons_succ, List.setIfInBounds_toArray, List.set_cons_zero, List.set_cons_succ]
      refine wpAnyH_take (i := 48) (v := ?_) rfl (by kernel_rfl) (by kernel_rfl) (by kernel_rfl) (fun _ _ _ h => h) (Or.inl ⟨by rfl, ?_⟩) (by assumption) ?_
      rotate_left 1
      · intro w hSw; (try dsimp only at hSw); go_simp; try (with_reducible rfl)
      try simp only [Act.put, List.getElem_toArray, List.getElem_cons_zero, List.getElem_cons_succ, List.setIfInBounds_toArray, List.set_cons_zero, List.set_cons_succ]
      refine wpAnyH_take (i := 49) (v := ?_) rfl (by kernel_rfl) (by kernel_rfl) (by kernel_rfl) (fun _ _ _ h => h) (Or.inl ⟨by rfl, ?_⟩) (by assumption) ?_
      rotate_left 1
      · intro w hSw; (try dsimp only at hSw); go_simp; try (with_reducible rfl)
      try simp only [Act.put, List.getElem_toArray, List.getElem_cons_zero, List.getElem_cons_succ, List.setIfInBounds_toArray, List.set_cons_zero, List.set_cons_succ]
      refine wpAnyH_take (i := 50) (v := ?_) rfl (by kernel_rfl) (by kernel_rfl) (by kernel_rfl) (fun _ _ _ h => h) (Or.inl ⟨by rfl, ?_⟩) (by assumption) ?_
      rotate_left 1
      · intro w hSw; (try dsimp only at hSw); go_simp; try (with_reducible rfl)
      try simp only [Act.put, List.getElem_toArray, List.getElem_cons_zero, List.getElem_cons_succ, List.setIfInBounds_toArray, List.set_cons_zero, List.set_cons_succ]
      refine wpAnyH_ready (rs := [51]) (by kernel_rfl) (by simp) ?_
      refine AllReadyH.cons rfl (fun K hK => ?_) AllReadyH.nil
      go_simp
      refine (goes_any _).mono ?_; rintro e W ⟨rfl, hb⟩; have hb0 := hHeld.1; have hbN := hb0.trans (hb.mono hb0.size); clear hb hb0 hHeld
      go_wp2_with fail
      refine hK.out _ _ ?_ (fun hHeld => ?_)
      · first | exact ⟨hbN, HP.out _ hbN⟩ | exact ⟨(Below.refl _ _).drew, HP.out _ ((Below.refl _ _).drew)⟩
      clear hK K
      try simp only [Act.put, List.getElem_toArray, List.getElem_cons_zero, List.getElem_cons_succ, List.setIfInBounds_toArray, List.set_cons_zero, List.set_cons_succ]
      refine wpAnyH_take (i := 52) (v := ?_) rfl (by kernel_rfl) (by kernel_rfl) (by kernel_rfl) (fun _ _ _ h => h) (Or.inl ⟨by rfl, ?_⟩) (by assumption) ?_
      rotate_left 1
      · intro w hSw; (try dsimp only at hSw); go_simp; try (with_reducible rfl)
      try simp only [Act.put, List.getElem_toArray, List.getElem_cons_zero, List.getElem_cons_succ, List.setIfInBounds_toArray, List.set_cons_zero, List.set_cons_succ]
      refine wpAnyH_take (i := 53) (v := ?_) rfl (by kernel_rfl) (by kernel_rfl) (by kernel_rfl) (fun _ _ _ h => h) (Or.inl ⟨by rfl, ?_⟩) (by assumption) ?_
      rotate_left 1
      · intro w hSw; (try dsimp only at hSw); go_simp; try (with_reducible rfl)
      try simp only [Act.put, List.getElem_toArray, List.getElem_cons_zero, List.getElem_cons_succ, List.setIfInBounds_toArray, List.set_cons_zero, List.set_cons_succ]
      refine wpAnyH_done (by kernel_rfl) ?_ _
      have hfin := (HB3.out.trans (Hb7.out.mono HB3.out.size)).trans (hHeld.1.mono (Nat.le_trans HB3.out.size Hb7.out.size))
      have HF := Lib.hid hfin
      clear hfin hHeld
      go_wp2_with fail
      go_ret
      exact ⟨by first | rfl | simp, HF.out⟩
end Go.Proofs.Ytcoaaldffnbdbaa
