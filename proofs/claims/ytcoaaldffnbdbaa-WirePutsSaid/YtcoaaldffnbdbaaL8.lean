import Derived.Test.YtcoaaldffnbdbaaL7
namespace Go.Proofs.Ytcoaaldffnbdbaa
open Go.RowKit Mem

theorem cell_kept {w w' : World} {g b i : Nat} {v : Value} (h : w.cell? ⟨b, i, none⟩ = some v) (hg : w.grownBy w' (some g)) (hb : b ≠ g) : w'.cell? ⟨b, i, none⟩ = some v :=
  (World.cell?_of_block (w := w) (hg.block b (block_lt h) (by simpa using hb))).trans h
theorem grownBy_drew {w w' : World} {r : Option Nat} (h : w.drew.grownBy w' r) : w.grownBy w' r := ⟨h.os, h.tape, h.output, h.size, h.block⟩
theorem lefts_le (vs : List Vl) : ∀ s : St, (lefts vs s).l.length ≤ s.l.length := by
  induction vs with
  | nil => exact fun s => Nat.le_refl _
  | cons v vs ih =>
    intro s
    refine Nat.le_trans (ih (v.left s)) ?_
    unfold Vl.left
    split
    · exact after_le _ _
    · split
      · have := text_len s; omega
      · exact after_le _ _

theorem i64_wrap (n : Int) : IntKind.i64.wrap n = wrap64 n := by rw [IntKind.wrap_i64]; unfold wrap64; omega
theorem same_wrap (a : Nat) (n : Int) (ha : a < 256 ^ 8) (h0 : 0 ≤ n) (h1 : n ≤ 18446744073709551615) : (wrap64 (a : Int) == wrap64 n) = decide ((a : Int) = n) := by
  rw [Bool.eq_iff_iff]
  simp only [beq_iff_eq, decide_eq_true_eq, wrap64]
  omega
set_option maxRecDepth 100000 in
set_option maxHeartbeats 20000000 in
theorem takes_any (g B : Nat) (s : St) (A : Option Addr) (n c : Nat) (vs : List Vl) (w : World) (hs : RdrS w g s) (hsl : s.l.length ≤ 1000000) (hn : vs.length = n) (hv : Vals w B A c vs) (hB : B ≤ g) :
    Calls Try.prog 21 #[.pointer (some ⟨g, 0, none⟩), .slice A n c] w fun e w' => e = .returned (.bool (sames vs s true)) ∧ Left w w' g (lefts vs s) := by
  subst hn
  have ht0 := hv.1
  have ht1 := hv.2.1
  unfold maxLen at ht1
  have HS := Lib.hid hs
  have HV := Lib.hid hv
  clear hs hv
  go_enter Try.func21, Try.ntmps21
  go_wp2_with fail
  go_loopw [6, 5] (fun i ok wr => ∃ (k : Nat), k ≤ vs.length ∧ i = .int .i64 k ∧ ok = .bool (sames (vs.take k) s true) ∧ Left w wr g (lefts (vs.take k) s)) (fun i _ _ => vs.length - (intOf i).toNat)
  case atStart => exact ⟨0, by omega, rfl, rfl, HS.out, grownBy_refl _ _⟩
  case round =>
    obtain ⟨k, hk, rfl, rfl, hl⟩ := hrel
    have HL := Lib.hid hl
    clear hl
    by_cases hlt : k < vs.length
    · obtain ⟨b, o, rfl, hbo, hc⟩ := HV.out.2.2.2 (by omega)
      obtain ⟨c0, c1, c2⟩ := hc k hlt
      have hok := HV.out.2.2.1 _ (List.getElem_mem hlt)
      have hne : b ≠ g := by omega
      have hc0 := cell_kept c0 HL.out.2 hne
      have hc1 := cell_kept c1 HL.out.2 hne
      have hc2 := cell_kept c2 HL.out.2 hne
      have hf1 := Lib.hid (sames_take vs s true k hlt)
      have hf2 := Lib.hid (lefts_take vs s k hlt)
      have hle := Nat.le_trans (lefts_le (vs.take k) s) hsl
      clear c0 c1 c2 hc
      generalize vs[k] = v at *
      generalize lefts (vs.take k) s = s' at *
      generalize sames (vs.take k) s true = b' at *
      obtain ⟨h1, h2, h3, h4, _⟩ := hok
      have K1 := Lib.hid hc1
      have K2 := Lib.hid hc2
      rcases (show v.k % 4 = 0 ∨ v.k % 4 = 1 ∨ v.k % 4 = 2 ∨ v.k % 4 = 3 by omega) with kk | kk | kk | kk
      · have hleft : Hid (v.left s' = s'.after 1) := Lib.hid (by unfold Vl.left; rw [if_pos kk])
        have hde : ((s'.num 1 : Int) == IntKind.u8.wrap v.n) = v.same s' := by
          unfold Vl.same; rw [if_pos kk, IntKind.wrap_u8]; rfl
        have e0 : (v.k % 4 == 0) = true := by rw [beq_iff_eq]; omega
        clear kk
        generalize hbb : v.same s' = bb at *
        clear hbb
        cases bb
        all_goals
          go_wp2_with fail
          first | (go_region_with (go_at_call 23; refine (RByte_any g s' _ (by exact HL.out.1)).mono ?_; rintro e w2 ⟨rfl, hl2⟩; have H2 := Lib.hid hl2; have hc1b := cell_kept (by exact K1.out) hl2.2 hne; clear hl2)) | fail
          all_goals
            go_wp2_with fail
            go_roundw
            case rel => exact ⟨k + 1, by omega, by go_num, by rw [hf1.out]; rfl, by rw [hf2.out, hleft.out]; exact ⟨H2.out.1, grownBy_trans HL.out.2 (grownBy_drew H2.out.2)⟩⟩
            case measure => simp [intOf]; omega
      · have hleft : Hid (v.left s' = s'.after 8) := Lib.hid (by unfold Vl.left; rw [if_neg (by omega), if_neg (by omega)])
        have hde : ((s'.num 8 : Int) == v.n) = v.same s' := by
          unfold Vl.same; rw [if_neg (by omega), if_neg (by omega)]; rfl
        have e0 : (v.k % 4 == 0) = false := by rw [beq_eq_false_iff_ne]; omega
        have e1 : (v.k % 4 == 1) = true := by rw [beq_iff_eq]; omega
        clear kk
        generalize hbb : v.same s' = bb at *
        clear hbb
        cases bb
        all_goals
          go_wp2_with fail
          first | (go_region_with (go_at_call 24; refine (RUint_any g s' _ (by exact HL.out.1)).mono ?_; rintro e w2 ⟨rfl, hl2⟩; have H2 := Lib.hid hl2; have hc1b := cell_kept (by exact K1.out) hl2.2 hne; clear hl2)) | fail
          all_goals
            go_wp2_with fail
            go_roundw
            case rel => exact ⟨k + 1, by omega, by go_num, by rw [hf1.out]; rfl, by rw [hf2.out, hleft.out]; exact ⟨H2.out.1, grownBy_trans HL.out.2 (grownBy_drew H2.out.2)⟩⟩
            case measure => simp [intOf]; omega
      · have hleft : Hid (v.left s' = s'.after 8) := Lib.hid (by unfold Vl.left; rw [if_neg (by omega), if_neg (by omega)])
        have hde : (wrap64 (s'.num 8 : Int) == wrap64 v.n) = v.same s' := by
          unfold Vl.same; rw [if_neg (by omega), if_neg (by omega)]; exact same_wrap _ _ (num_lt _ _) h3 h4
        have hde2 : (wrap64 (s'.num 8 : Int) == IntKind.i64.wrap v.n) = v.same s' := by
          rw [i64_wrap]; exact hde
        have e0 : (v.k % 4 == 0) = false := by rw [beq_eq_false_iff_ne]; omega
        have e1 : (v.k % 4 == 1) = false := by rw [beq_eq_false_iff_ne]; omega
        have e2 : (v.k % 4 == 2) = true := by rw [beq_iff_eq]; omega
        clear kk
        generalize hbb : v.same s' = bb at *
        clear hbb
        cases bb
        all_goals
          go_wp2_with fail
          first | (go_region_with (go_at_call 25; refine (RInt_any g s' _ (by exact HL.out.1)).mono ?_; rintro e w2 ⟨rfl, hl2⟩; have H2 := Lib.hid hl2; have hc1b := cell_kept (by exact K1.out) hl2.2 hne; clear hl2)) | fail
          all_goals
            go_wp2_with fail
            go_roundw
            case rel => exact ⟨k + 1, by omega, by go_num, by rw [hf1.out]; rfl, by rw [hf2.out, hleft.out]; exact ⟨H2.out.1, grownBy_trans HL.out.2 (grownBy_drew H2.out.2)⟩⟩
            case measure => simp [intOf]; omega
      · have hleft : Hid (v.left s' = s'.textAfter) := Lib.hid (by unfold Vl.left; rw [if_neg (by omega), if_pos kk])
        have hde : ((str s'.text).toList == v.s.toList) = v.same s' := by
          unfold Vl.same; rw [if_neg (by omega), if_pos kk, str_toList, ByteArray.toList_eq]
        have e0 : (v.k % 4 == 0) = false := by rw [beq_eq_false_iff_ne]; omega
        have e1 : (v.k % 4 == 1) = false := by rw [beq_eq_false_iff_ne]; omega
        have e2 : (v.k % 4 == 2) = false := by rw [beq_eq_false_iff_ne]; omega
        have e3 : (v.k % 4 == 3) = true := by rw [beq_iff_eq]; omega
        clear kk
        generalize hbb : v.same s' = bb at *
        clear hbb
        cases bb
        all_goals
          go_wp2_with fail
          first | (go_region_with (go_at_call 26; refine (RText_any g s' _ (by exact HL.out.1) (by omega)).mono ?_; rintro e w2 ⟨v2, rfl, hown2, hl2⟩; have H2 := Lib.hid hl2; have hcv2 := run_str_own w2 hown2; clear hown2; have hc2b := cell_kept (by exact K2.out) hl2.2 hne; clear hl2)) | fail
          all_goals
            go_wp2_with fail
            go_roundw
            case rel => exact ⟨k + 1, by omega, by go_num, by rw [hf1.out]; rfl, by rw [hf2.out, hleft.out]; exact ⟨H2.out.1, grownBy_trans HL.out.2 (grownBy_drew H2.out.2)⟩⟩
            case measure => simp [intOf]; omega
    · obtain rfl : k = vs.length := by omega
      have e := Lib.hid (List.take_length (l := vs))
      go_wp2_with fail
      go_ret
      exact ⟨by rw [e.out]; rfl, by have := HL.out; rw [e.out] at this; exact this⟩
end Go.Proofs.Ytcoaaldffnbdbaa
