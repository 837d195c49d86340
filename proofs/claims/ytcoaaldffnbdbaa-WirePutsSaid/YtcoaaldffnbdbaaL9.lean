import Derived.Test.YtcoaaldffnbdbaaL8
import Derived.Lib.ConvBytes
namespace Go.Proofs.Ytcoaaldffnbdbaa
open Go.RowKit Mem

theorem enc_len (v : Vl) (h : v.s.size ≤ 1000) : v.enc.length ≤ 1004 := by
  unfold Vl.enc
  have : v.s.data.toList.length = v.s.size := by simp
  split
  · simp [length_be]
  · split
    · rw [List.length_append, length_be]; omega
    · simp [length_be]
theorem unsig_wrap64 (n : Int) (h0 : 0 ≤ n) (h1 : n ≤ 18446744073709551615) : unsig (wrap64 n) = n.toNat := by
  unfold unsig wrap64; rw [IntKind.wrap_u64]; omega
theorem Rd.nil_of {w : World} {B : Nat} {A : Option Addr} {c : Nat} {l : List UInt8} (h : Rd w B A c l) (e : l = []) : Rd w B A c [] := e ▸ h

theorem Text_len (A : Option Addr) (c : Nat) (l : List UInt8) (S : Option Addr) (d m : Nat) (s : List UInt8) (w : World) (hl : Rd w w.heap.size A c l) (hn : l.length ≤ 17592186044416) (hs : Rd w w.heap.size S d s) (he : s.length = m) (hm : m ≤ 17592186044416) :
    Calls Try.prog 13 #[.slice A l.length c, .slice S m d] w fun e w' => ∃ v', e = .returned v' ∧ Own 5 w' w.heap.size v' (l ++ (be 4 s.length ++ s)) ∧ Below w.heap.size w w' := by
  subst he; exact Text_any A c l S d s w hl hn hs hm
theorem takes_all (g B : Nat) (E : List UInt8) (A : Option Addr) (n c : Nat) (vs : List Vl) (w : World) (hs : RdrS w g ⟨E, false⟩) (he : E = encs vs) (hall : ∀ v ∈ vs, v.ok ∧ v.s.data.toList.length < 4294967296) (hsl : E.length ≤ 1000000) (hn : vs.length = n) (hv : Vals w B A c vs) (hB : B ≤ g) :
    Calls Try.prog 21 #[.pointer (some ⟨g, 0, none⟩), .slice A n c] w fun e w' => e = .returned (.bool true) ∧ Left w w' g ⟨[], false⟩ := by
  have h := sames_app vs [] hall
  rw [List.append_nil, ← he] at h
  have := takes_any g B _ A n c vs w hs hsl hn hv hB
  rwa [h.1, h.2] at this
theorem takes_cut (g B : Nat) (E : List UInt8) (A : Option Addr) (n c : Nat) (vs : List Vl) (w : World) (hs : RdrS w g ⟨E.dropLast, false⟩) (he : E = encs vs) (hne : E ≠ []) (hall : ∀ v ∈ vs, v.ok ∧ v.s.data.toList.length < 4294967296) (hsl : E.length ≤ 1000000) (hn : vs.length = n) (hv : Vals w B A c vs) (hB : B ≤ g) :
    Calls Try.prog 21 #[.pointer (some ⟨g, 0, none⟩), .slice A n c] w fun e w' => ∃ b l, e = .returned (.bool b) ∧ Left w w' g ⟨l, true⟩ := by
  have h := lefts_cut vs (by rintro rfl; exact hne he) hall
  rw [← he] at h
  refine (takes_any g B _ A n c vs w hs (by simp; omega) hn hv hB).mono ?_
  rintro e w' ⟨rfl, hl⟩
  generalize lefts vs ⟨E.dropLast, false⟩ = t at *
  obtain ⟨l, b⟩ := t
  cases h
  exact ⟨_, l, rfl, hl⟩
theorem rdr_other {w w' : World} {g g' : Nat} {s t : St} (h : RdrS w g s) (hl : Left w w' g' t) (hlt : g < g') : RdrS w' g s := by
  have hw := h.lt
  have hk : ∀ p : Addr, p.block < g + 1 → w'.cell? p = w.cell? p := fun p hp => World.cell?_of_block (hl.2.block p.block (by omega) (by simp; omega))
  obtain ⟨A, c, hh, hr, hs⟩ := h
  exact ⟨A, c, (hl.2.block g hw (by simp; omega)).trans hh, hr.keep fun p hp => hk p (by omega), hs⟩
/-- The string of a value, as bytes of its own. -/
theorem bytesWorld_rd (w : World) (s : ByteArray) (hs : s.size ≤ 1000) : Rd (Lib.bytesWorld w 5 s) (Lib.bytesWorld w 5 s).heap.size (some ⟨w.heap.size, 0, none⟩) (grownCap w s.size 0 5) s.data.toList ∧ Below w.heap.size w (Lib.bytesWorld w 5 s) := by
  have hsz := Lib.bytesWorld_size w 5 s
  have hl : s.data.toList.length = s.size := by simp
  refine ⟨⟨by rw [hl]; exact grownCap_ge w _ _ _, grownCap_le_maxLen w s.size 0 5 (by unfold maxLen; omega), fun e => (by cases e), fun _ => ⟨w.heap.size, 0, rfl, by omega, fun i hi => ?_⟩⟩, ⟨?_, ?_, ?_, by omega, fun k hk => Lib.bytesWorld_at_old w 5 s k hk⟩⟩
  · rw [Nat.zero_add, Lib.bytesWorld_cell w 5 s i (by omega), List.getD_eq_getElem?_getD, List.getElem?_eq_getElem hi]; rfl
  all_goals simp [Lib.bytesWorld, World.freeze, World.drew, World.alloc, -World.alloc_eq, -World.drew_eq]

set_option maxRecDepth 100000 in
set_option maxHeartbeats 20000000 in
theorem wireBack_walk (A : Option Addr) (n c : Nat) (f : Nat → Nat → Value) (w : World) {fs : Array Field} (hu : Try.prog.underlying 46 = some (.struct fs)) (hf : Structs Try.prog w w.heap.size fs A n c f) :
    Calls Try.prog 5 #[.slice A n c] w fun e w' => e = .returned (.bool true) ∧ Below w.heap.size w w' := by
  obtain ⟨vs, rfl, hv⟩ := vals_of hu hf
  clear hu hf
  have ht0 := hv.1
  have ht1 := hv.2.1
  unfold maxLen at ht1
  have HV := Lib.hid hv
  clear hv
  by_cases hbig : 100 < vs.length
  · have hb : (100 : Int) < (vs.length : Int) := by omega
    go_enter Try.func5, Try.ntmps5
    go_wp2
    go_ret
    exact ⟨rfl, Below.refl _ _⟩
  · have hsm : vs.length ≤ 100 := by omega
    have hsmall : (vs.length : Int) ≤ 100 := by omega
    clear hbig
    have hconv := fun (W : World) (s : ByteArray) => Lib.run_convert_string_bytes (P := Try.prog) W 9 22 5 s Try.underlying9 Try.underlying22 Try.underlying5
    go_enter Try.func5, Try.ntmps5
    go_wp2_with fail
    go_loopw [4, 3] (fun i b wr => ∃ (k : Nat) (Ab : Option Addr) (cb : Nat), k ≤ vs.length ∧ i = .int .i64 k ∧ b = .slice Ab (encs (vs.take k)).length cb ∧ (encs (vs.take k)).length ≤ k * 1004 ∧ Rd wr wr.heap.size Ab cb (encs (vs.take k)) ∧ Below w.heap.size w wr ∧ ∀ v ∈ vs.take k, v.s.size ≤ 1000) (fun i _ _ => vs.length - (intOf i).toNat)
    case atStart => exact ⟨0, none, 0, by omega, rfl, rfl, by simp [encs], Rd.nil _ _, Below.refl _ _, by simp⟩
    case round =>
      obtain ⟨k, Ab, cb, hk, rfl, rfl, hmk, hr, hb, hsz⟩ := hrel
      have HR := Lib.hid hr
      have HB := Lib.hid hb
      have HS := Lib.hid hsz
      clear hr hb hsz
      by_cases hlt : k < vs.length
      · obtain ⟨b, o, rfl, hbo, hc⟩ := HV.out.2.2.2 (by omega)
        obtain ⟨c0, c1, c2⟩ := hc k hlt
        have hok := HV.out.2.2.1 _ (List.getElem_mem hlt)
        have hc0 := (HB.out.cell (p := ⟨b, o + k * 3, none⟩) hbo).trans c0
        have hc1 := (HB.out.cell (p := ⟨b, o + k * 3 + 1, none⟩) hbo).trans c1
        have hc2 := (HB.out.cell (p := ⟨b, o + k * 3 + 2, none⟩) hbo).trans c2
        have hf1 := Lib.hid (encs_take vs k hlt)
        have hf2 : Hid (vs.take (k + 1) = vs.take k ++ [vs[k]]) := Lib.hid (List.take_succ_eq_append_getElem hlt)
        clear c0 c1 c2 hc
        generalize vs[k] = v at *
        generalize hE : encs (vs.take k) = E at *
        clear hE
        obtain ⟨h1, h2, h3, h4, h5⟩ := hok
        have h5' : v.s.size ≤ 9223372036854775807 := by unfold maxLen at h5; omega
        by_cases hlong : 1000 < v.s.size
        · have hl : (1000 : Int) < (v.s.size : Int) := by omega
          go_wp2_with fail
          go_ret
          exact ⟨rfl, HB.out⟩
        · have hl : (v.s.size : Int) ≤ 1000 := by omega
          have hl' : v.s.size ≤ 1000 := by omega
          have hel := enc_len v hl'
          have hall : Hid (∀ u ∈ vs.take (k + 1), u.s.size ≤ 1000) := Lib.hid (by
            rw [hf2.out]
            intro u hu
            rw [List.mem_append, List.mem_singleton] at hu
            rcases hu with hu | rfl
            · exact HS.out u hu
            · exact hl')
          clear hlong
          rcases (show v.k % 4 = 0 ∨ v.k % 4 = 1 ∨ v.k % 4 = 2 ∨ v.k % 4 = 3 by omega) with kk | kk | kk | kk
          · have he : Hid (be 1 (v.n % 256).toNat = v.enc) := Lib.hid (by unfold Vl.enc; rw [if_pos kk])
            have e0 : (v.k % 4 == 0) = true := by rw [beq_iff_eq]; omega
            clear kk
            go_wp2_with (go_at_call 10; refine (Byte_any _ _ E (v.n % 256) _ HR.out (by omega) (by omega) (by omega)).mono ?_; rintro e w2 ⟨v2, rfl, hown, hb2⟩; rw [he.out] at hown; obtain ⟨A2, c2, rfl, hr2, _, _⟩ := hown.form; have H2 := Lib.hid hr2; have HB2 := Lib.hid (HB.out.trans (hb2.mono HB.out.size)); clear hown hb2 hr2)
            go_roundw
            case rel => exact ⟨k + 1, A2, c2, by omega, by go_num, by rw [hf1.out, List.length_append], by rw [hf1.out, List.length_append]; omega, by rw [hf1.out]; exact H2.out, HB2.out, hall.out⟩
            case measure => simp [intOf]; omega
          · have he : Hid (be 8 v.n.toNat = v.enc) := Lib.hid (by unfold Vl.enc; rw [if_neg (by omega), if_neg (by omega)])
            have e0 : (v.k % 4 == 0) = false := by rw [beq_eq_false_iff_ne]; omega
            have e1 : (v.k % 4 == 1) = true := by rw [beq_iff_eq]; omega
            clear kk
            go_wp2_with (go_at_call 11; refine (Uint_any _ _ E v.n _ HR.out (by omega) (by omega) (by omega)).mono ?_; rintro e w2 ⟨v2, rfl, hown, hb2⟩; rw [he.out] at hown; obtain ⟨A2, c2, rfl, hr2, _, _⟩ := hown.form; have H2 := Lib.hid hr2; have HB2 := Lib.hid (HB.out.trans (hb2.mono HB.out.size)); clear hown hb2 hr2)
            go_roundw
            case rel => exact ⟨k + 1, A2, c2, by omega, by go_num, by rw [hf1.out, List.length_append], by rw [hf1.out, List.length_append]; omega, by rw [hf1.out]; exact H2.out, HB2.out, hall.out⟩
            case measure => simp [intOf]; omega
          · have he : Hid (be 8 (unsig (wrap64 v.n)) = v.enc) := Lib.hid (by unfold Vl.enc; rw [if_neg (by omega), if_neg (by omega), unsig_wrap64 _ h3 h4])
            have e0 : (v.k % 4 == 0) = false := by rw [beq_eq_false_iff_ne]; omega
            have e1 : (v.k % 4 == 1) = false := by rw [beq_eq_false_iff_ne]; omega
            have e2 : (v.k % 4 == 2) = true := by rw [beq_iff_eq]; omega
            clear kk
            go_wp2_with (go_at_call 12; refine (Int_any _ _ E (wrap64 v.n) _ HR.out (by omega)).mono ?_; rintro e w2 ⟨v2, rfl, hown, hb2⟩; rw [he.out] at hown; obtain ⟨A2, c2, rfl, hr2, _, _⟩ := hown.form; have H2 := Lib.hid hr2; have HB2 := Lib.hid (HB.out.trans (hb2.mono HB.out.size)); clear hown hb2 hr2)
            go_roundw
            case rel => exact ⟨k + 1, A2, c2, by omega, by go_num, by rw [hf1.out, List.length_append], by rw [hf1.out, List.length_append]; omega, by rw [hf1.out]; exact H2.out, HB2.out, hall.out⟩
            case measure => simp [intOf]; omega
          · have he : Hid (be 4 v.s.data.toList.length ++ v.s.data.toList = v.enc) := Lib.hid (by unfold Vl.enc; rw [if_neg (by omega), if_pos kk])
            have e0 : (v.k % 4 == 0) = false := by rw [beq_eq_false_iff_ne]; omega
            have e1 : (v.k % 4 == 1) = false := by rw [beq_eq_false_iff_ne]; omega
            have e2 : (v.k % 4 == 2) = false := by rw [beq_eq_false_iff_ne]; omega
            have e3 : (v.k % 4 == 3) = true := by rw [beq_iff_eq]; omega
            have hlen : v.s.data.toList.length = v.s.size := by simp
            have HL := Lib.hid hlen
            have HW := Lib.hid (bytesWorld_rd wr v.s hl')
            clear kk hlen
            go_wp2_with (go_at_call 13; refine (Text_len _ _ E _ _ _ _ _ ((HR.out.below HW.out.2).more (HW.out.2.size)) (by omega) HW.out.1 HL.out (by omega)).mono ?_; rintro e w2 ⟨v2, rfl, hown, hb2⟩; rw [he.out] at hown; obtain ⟨A2, c2, rfl, hr2, _, _⟩ := hown.form; have H2 := Lib.hid hr2; have hz := Nat.le_trans HB.out.size HW.out.2.size; have HB2 := Lib.hid ((HB.out.trans (HW.out.2.mono HB.out.size)).trans (hb2.mono hz)); clear hown hb2 hr2 hz)
            go_roundw
            case rel => exact ⟨k + 1, A2, c2, by omega, by go_num, by rw [hf1.out, List.length_append], by rw [hf1.out, List.length_append]; omega, by rw [hf1.out]; exact H2.out, HB2.out, hall.out⟩
            case measure => simp [intOf]; omega
      · obtain rfl : k = vs.length := by omega
        have hall : ∀ v ∈ vs, v.ok ∧ v.s.data.toList.length < 4294967296 := by
          intro v hv
          have h1 := HS.out v (by rw [List.take_length]; exact hv)
          have : v.s.data.toList.length = v.s.size := by simp
          exact ⟨HV.out.2.2.1 v hv, by omega⟩
        have HA := Lib.hid hall
        generalize hE : encs (vs.take vs.length) = E at *
        have HE : Hid (E = encs vs) := Lib.hid (by rw [← hE, List.take_length])
        clear hE
        have hlen : E.length ≤ 100400 := by omega
        have hlen' : (E.length : Int) ≤ 100400 := by omega
        have hcb := HR.out.1
        have hcm := HR.out.2.1
        unfold maxLen at hcm
        by_cases h0 : E = []
        · have hz : E.length = 0 := by rw [h0]; rfl
          have HZ := Lib.hid hz
          have hz0 : ¬ (0 : Int) < (E.length : Int) := by omega
          have H0 := Lib.hid h0
          clear hz h0
          go_wp2_with (first
            | (go_at_call 17; refine (New_any _ _ _ _ _ HR.out rfl (by omega)).mono ?_; rintro e w1 ⟨g, rfl, hg, hs, hb⟩; have HG := Lib.hid (Nat.le_trans HB.out.size hg); have HS1 := Lib.hid hs; have HB1 := Lib.hid (HB.out.trans (hb.mono HB.out.size)); clear hg hs hb)
            | (go_at_call 21; refine (takes_all g w.heap.size E _ _ _ vs _ HS1.out HE.out HA.out (by omega) rfl (HV.out.below HB1.out) HG.out).mono ?_; rintro e w2 ⟨rfl, hl⟩; have HL2 := Lib.hid hl; have HB2 := Lib.hid (HB1.out.trans (hl.below HG.out HB1.out.size)); clear hl)
            | (go_at_call 19; refine (RDone_any g ⟨[], false⟩ _ HL2.out.1).mono ?_; rintro e w3 ⟨rfl, rfl⟩)
            | (go_at_call 16; refine (goes_any _).mono ?_; rintro e wC ⟨rfl, hbC⟩; have HbC := Lib.hid hbC; clear hbC))
          go_ret
          exact ⟨rfl, HB2.out.trans (HbC.out.mono HB2.out.size)⟩
        · have hpos : 0 < E.length := List.length_pos_iff.2 h0
          have hz0 : (0 : Int) < (E.length : Int) := by omega
          have H0 := Lib.hid h0
          have hcut := HR.out.take (E.length - 1)
          rw [← List.dropLast_eq_take] at hcut
          have HC := Lib.hid hcut
          clear h0 hcut
          go_wp2_with fail
          refine (New_any _ _ _ _ _ HR.out rfl (by omega)).mono ?_
          rintro e w1 ⟨g, rfl, hg, hs, hb⟩
          have HG := Lib.hid (Nat.le_trans HB.out.size hg); have HS1 := Lib.hid hs; have Hb1 := Lib.hid hb; have HB1' := Lib.hid hb.size; have HB1 := Lib.hid (HB.out.trans (hb.mono HB.out.size)); clear hg hs hb
          go_wp2_with fail
          refine (New_any _ _ _ E.dropLast _ ((HC.out.below Hb1.out).more HB1'.out) (by simp) (by omega)).mono ?_
          rintro e w2 ⟨gc, rfl, hg, hs, hb⟩
          have HGc := Lib.hid (Nat.le_trans HB1.out.size hg); have HS2 := Lib.hid hs; have HSr := Lib.hid (Rdr.below HS1.out hb (HS1.out.lt)); have HB2 := Lib.hid (HB1.out.trans (hb.mono HB1.out.size)); have HGG := Lib.hid (Nat.lt_of_lt_of_le HS1.out.lt hg); clear hg hs hb
          go_wp2_with fail
          refine (takes_cut gc w.heap.size E _ _ _ vs _ HS2.out HE.out H0.out HA.out (by omega) rfl (HV.out.below HB2.out) HGc.out).mono ?_
          rintro e w3 ⟨b3, l3, rfl, hl⟩
          have HL3 := Lib.hid hl; have HB3 := Lib.hid (HB2.out.trans (hl.below HGc.out HB2.out.size)); clear hl
          go_wp2_with fail
          refine (RDone_bad gc l3 _ HL3.out.1).mono ?_
          rintro e w4 ⟨rfl, rfl⟩
          go_wp2_with fail
          refine (takes_all g w.heap.size E _ _ _ vs _ (rdr_other HSr.out HL3.out HGG.out) HE.out HA.out (by omega) rfl (HV.out.below HB3.out) HG.out).mono ?_
          rintro e w5 ⟨rfl, hl⟩
          have HL5 := Lib.hid hl; have HB5 := Lib.hid (HB3.out.trans (hl.below HG.out HB3.out.size)); clear hl
          go_wp2_with fail
          refine (RDone_any g ⟨[], false⟩ _ HL5.out.1).mono ?_
          rintro e w6 ⟨rfl, rfl⟩
          rw [show (⟨[], false⟩ : St).done = 0 by kernel_rfl]
          go_wp2_with (go_at_call 16; refine (goes_any _).mono ?_; rintro e wC ⟨rfl, hbC⟩; have HbC := Lib.hid hbC; clear hbC)
          go_ret
          exact ⟨rfl, HB5.out.trans (HbC.out.mono HB5.out.size)⟩
end Go.Proofs.Ytcoaaldffnbdbaa
