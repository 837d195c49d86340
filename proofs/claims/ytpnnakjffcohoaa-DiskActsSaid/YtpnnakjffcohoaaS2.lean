import Derived.Test.YtpnnakjffcohoaaS1
namespace Go.Proofs.Ytpnnakjffcohoaa
set_option linter.unusedVariables false
set_option linter.unusedSimpArgs false
open Go.RowKit Mem Go.ChangeMaps

/-- A nil list of fates. -/
theorem RdI.nilAt (w : World) (B : Nat) : RdI w B none 0 [] := RdI.nil w B

theorem ActOk.alloc {w : World} {B : Nat} {a : ActD} (h : ActOk w B a) (hB : B ≤ w.heap.size) (o : Obj) : ActOk (w.alloc o) B a :=
  ⟨h.d, h.l, h.m, h.bb, h.cb, h.sb, h.fl, h.fr.below ((Below.refl B w).alloc hB o)⟩
theorem str_toList (l : List UInt8) : (str l).toList = l := by rw [ByteArray.toList_eq]; simp [str]
theorem doA_n (d : Dsk) (a : ActD) : (d.doA a).n = d.n := by
  have hW : ∀ i l, (d.doW i l).n = d.n := fun i l => by
    unfold Dsk.doW; split
    · rw [(burn_fields _).1, (put_fields d _ l).1]
    · rfl
  have hF : d.doF.n = d.n := by
    unfold Dsk.doF Dsk.flush; split
    · rfl
    · split
      · exact (burn_fields d).1
      · exact (burn_fields d).1
  have hU : ∀ k, (d.fuseTo k).n = d.n := fun k => by unfold Dsk.fuseTo; split <;> rfl
  unfold Dsk.doA
  split
  · exact hW _ _
  · exact hF
  · exact hU _
  · rfl
  · exact restart_n d _
  · rfl

set_option maxRecDepth 20000 in
set_option maxHeartbeats 2000000 in
theorem diskSectors_core (a0 : Int) (h00 : 0 ≤ a0) (h01 : a0 < 256) (A1 : Option Addr) (len1 cap1 : Nat) (f1 : Nat → ActD) (A2 : Option Addr) (len2 cap2 : Nat) (f2 : Nat → ActD) (A3 : Option Addr) (len3 cap3 : Nat) (l3 : List Int) (hl3 : l3.length = len3)
    (w : World) (w1 : Acts w w.heap.size A1 len1 cap1 f1) (w2 : Acts w w.heap.size A2 len2 cap2 f2) (w3 : RdI w w.heap.size A3 cap3 l3) :
    Calls Try.prog 4 #[.int .u8 a0, .slice A1 len1 cap1, .slice A2 len2 cap2, .slice A3 len3 cap3] w fun e w' => e = .returned (.bool true) ∧ Below w.heap.size w w' := by
  have HA1 := Lib.hid w1
  have HA2 := Lib.hid w2
  have HA3 := Lib.hid w3
  have HL3 := Lib.hid hl3
  have hwn : wrap64 a0 = a0 := by unfold wrap64; omega
  have hk : a0.tmod 12 = ((a0.toNat % 12 : Nat) : Int) := by rw [Int.tmod_eq_emod_of_nonneg h00]; omega
  obtain ⟨n, hn⟩ : ∃ n, n = 1 + a0.toNat % 12 := ⟨_, rfl⟩
  have hn1 : 1 ≤ n := by omega
  have hn2 : n ≤ 12 := by omega
  have hk1 : (1 : Int) + a0.tmod 12 = (n : Int) := by omega
  have HN := Lib.hid (And.intro hn1 hn2)
  clear w1 w2 w3 hl3 h00 h01 hk hn hn1 hn2
  go_enter Try.func4, Try.ntmps4
  go_wp2_with fail
  refine (great_any A1 len1 cap1 f1 w _ HA1.out).mono ?_
  rintro e w1 ⟨r1, rfl, rfl, hr1⟩
  have HR1 := Lib.hid hr1
  clear hr1
  by_cases g1 : 0 < r1
  · go_wp2_with fail
    go_ret
    exact ⟨rfl, Below.refl _ _⟩
  obtain ⟨hlen1, hf1⟩ := HR1.out.out g1
  have HF1 := Lib.hid (And.intro hlen1 hf1)
  clear hlen1 hf1 HR1
  go_wp2_with fail
  refine (great_any A2 len2 cap2 f2 _ _ HA2.out).mono ?_
  rintro e w1 ⟨r2, rfl, rfl, hr2⟩
  have HR2 := Lib.hid hr2
  clear hr2
  by_cases g2 : 0 < r2
  · go_wp2_with fail
    go_ret
    exact ⟨rfl, Below.refl _ _⟩
  obtain ⟨hlen2, hf2⟩ := HR2.out.out g2
  have HF2 := Lib.hid (And.intro hlen2 hf2)
  clear hlen2 hf2 HR2
  by_cases g3 : 60 < (len3 : Int)
  · go_wp2_with fail
    go_ret
    exact ⟨rfl, Below.refl _ _⟩
  have hk2 : wrap64 (n : Int) = (n : Int) := by unfold wrap64; have := HN.out.2; omega
  go_wp2_with fail
  refine (St.new n _ HN.out.1 (by have := HN.out.2; omega)).mono ?_
  rintro e wn ⟨rfl, s0⟩
  have S0 := Lib.hid s0
  clear s0 g1 g2 g3 hk1 hk2 hwn
  go_wp2_with fail
  go_loopw [11] (fun v wr => ∃ k : Nat, k ≤ len1 ∧ v = .int .i64 k ∧ Hid (∃ y d m, St w1.heap.size w1 wr (w1.heap.size + 2) y d m ∧ d.n = n ∧ m = 2 * k)) (fun v _ => len1 - (intOf v).toNat)
  case atStart => exact ⟨0, Nat.zero_le _, rfl, _, _, _, S0.out, rfl, rfl⟩
  case round =>
    obtain ⟨k, hk, rfl, hX⟩ := hrel
    obtain ⟨y, d, m, s, hdn, hm⟩ := hX.out
    have SI := Lib.hid s
    have DN := Lib.hid (And.intro hdn hm)
    clear hX s hdn hm
    have hl60 : len1 ≤ 60 := HF1.out.1
    by_cases hlt : k < len1
    · have ha := HA1.out.below SI.out.bel
      obtain ⟨b, o, rfl, hb, hc⟩ := ha.2.2 (by omega)
      have hcc := hc k hlt
      have c0 := hcc.c0
      have c1 := hcc.c1
      have c2 := hcc.c2
      have c3 := hcc.c3
      have c4 := hcc.c4
      have c5 := hcc.c5
      have AK := Lib.hid hcc.ok
      clear ha hb hc hcc
      go_wp2_with fail
      refine (does_any SI.out (f1 k) AK.out (by have := DN.out.2; omega)).mono ?_
      rintro e w4 ⟨rfl, y4, s4, _⟩
      have S4 := Lib.hid s4
      have D4 := Lib.hid (show (d.doA (f1 k)).n = n ∧ m + 2 = 2 * (k + 1) from ⟨(doA_n _ _).trans DN.out.1, by have := DN.out.2; omega⟩)
      clear s4 SI DN AK c0 c1 c2 c3 c4 c5
      go_wp2_with fail
      go_roundw
      case rel => exact ⟨k + 1, by omega, by go_num, _, _, _, S4.out, D4.out.1, D4.out.2⟩
      case measure => simp [intOf]; omega
    · obtain rfl : k = len1 := by omega
      go_wp2_with fail
      refine (SI.out.restart (by have := DN.out.2; omega) none 0 0 [] (RdI.nil _ _) rfl (fun h => by simp at h)).mono ?_
      rintro e w4 ⟨rfl, y4, s4, _⟩
      have hans : (d.restart []).ansF = 0 := rfl
      have S4 := Lib.hid s4
      have D4 := Lib.hid (show (d.restart []).n = n from (restart_n _ _).trans DN.out.1)
      have M4 := Lib.hid (show m ≤ 120 by have := DN.out.2; omega)
      clear s4 SI DN
      go_wp2_with fail
      refine (S4.out.flush (by have := M4.out; omega)).mono ?_
      rintro e w5 ⟨rfl, y5, s5, _⟩
      rw [hans]
      have hfl : Fl (d.restart []).doF n (d.restart []).doF.last := ⟨by
        have e1 : (d.restart []).doF.n = (d.restart []).n := by unfold Dsk.doF Dsk.flush; split; rfl; split <;> exact (burn_fields _).1
        rw [e1]; exact D4.out, fun _ => rfl, fun h => by cases h⟩
      have hdead : (d.restart []).doF.dead = false := rfl
      have hwait : (d.restart []).doF.wait = fun _ => none := rfl
      generalize (d.restart []).doF = d5 at s5 hfl hdead hwait
      have S5 := Lib.hid s5
      have FL5 := Lib.hid hfl
      have W5 := Lib.hid hwait
      clear s5 hfl hans S4 D4 hwait
      go_wp2_with fail
      refine (all_any S5.out hdead).mono ?_
      rintro e w6 ⟨v6, rfl, s6, b6, p6⟩
      have P6 := Lib.hid (show Pages w6 y5.foot v6 n d5.last by
        have e1 := FL5.out.n
        have := p6
        rw [e1] at this
        exact this.congr fun i hi => by show (d5.wait i).getD _ = _; rw [W5.out]; rfl)
      have S6 := Lib.hid s6
      obtain ⟨L, hL⟩ : ∃ L, L = d5.last := ⟨_, rfl⟩
      rw [← hL] at FL5 P6
      clear s6 b6 p6 S5 W5 hL hdead
      go_wp2_with fail
      go_loopw [13] (fun v wr => ∃ k : Nat, k ≤ len2 ∧ v = .int .i64 k ∧ Hid (∃ y d m, St w1.heap.size w1 wr (w1.heap.size + 2) y d m ∧ Fl d n L ∧ m ≤ 120 + 2 * k ∧ Pages wr y.foot v6 n L)) (fun v _ => len2 - (intOf v).toNat)
      case atStart => exact ⟨0, Nat.zero_le _, rfl, _, _, _, S6.out, FL5.out, M4.out, P6.out⟩
      case round =>
        clear S6 FL5 M4 P6
        obtain ⟨k, hk, rfl, hX⟩ := hrel
        obtain ⟨y, d, m, s, hfl, hm, hp⟩ := hX.out
        have SI := Lib.hid s
        have FI := Lib.hid hfl
        have MI := Lib.hid hm
        have PI := Lib.hid hp
        clear hX s hfl hm hp
        have hl260 : len2 ≤ 60 := HF2.out.1
        by_cases hlt : k < len2
        · have ha := HA2.out.below SI.out.bel
          obtain ⟨b, o, rfl, hb, hc⟩ := ha.2.2 (by omega)
          have hcc := hc k hlt
          have c0 := hcc.c0
          have c1 := hcc.c1
          have c2 := hcc.c2
          have c3 := hcc.c3
          have c4 := hcc.c4
          have c5 := hcc.c5
          have AK := Lib.hid hcc.ok
          have hq : (((f2 k).dw : Nat) : Int).tmod 7 = (((f2 k).dw % 7 : Nat) : Int) := by rw [Int.tmod_eq_emod_of_nonneg (by omega)]; omega
          obtain ⟨q, hqq⟩ : ∃ q, q = (f2 k).dw % 7 := ⟨_, rfl⟩
          rw [← hqq] at hq
          have HQ := Lib.hid hqq
          clear ha hb hc hcc hqq
          by_cases hq0 : q = 0
          · subst hq0
            go_wp2_with fail
            refine (does_any (SI.out.alloc (.cells (f2 k).cells 35)) (f2 k) (AK.out.alloc (Nat.le_trans SI.out.base SI.out.bel.size) _) (by have := MI.out; omega)).mono ?_
            rintro e w7 ⟨rfl, y7, s7, k7⟩
            have X7 := Lib.hid (show ∃ y d m, St w1.heap.size w1 w7 (w1.heap.size + 2) y d m ∧ Fl d n L ∧ m ≤ 120 + 2 * (k + 1) ∧ Pages w7 y.foot v6 n L from
              ⟨_, _, _, s7, FI.out.doA SI.out.good _ (.inl HQ.out.symm), by have := MI.out; omega, (PI.out.below ((Below.refl _ wr).alloc (Nat.le_refl _) _)).kp k7⟩)
            clear s7 k7 SI FI MI PI AK c0 c1 c2 c3 c4 c5 hq
            go_wp2_with fail
            go_roundw
            case rel => exact ⟨k + 1, by omega, by go_num, X7.out⟩
            case measure => simp [intOf]; omega
          · by_cases hq2 : q = 2
            · subst hq2
              clear hq0
              go_wp2_with fail
              refine (does_any (SI.out.alloc (.cells (f2 k).cells 35)) (f2 k) (AK.out.alloc (Nat.le_trans SI.out.base SI.out.bel.size) _) (by have := MI.out; omega)).mono ?_
              rintro e w7 ⟨rfl, y7, s7, k7⟩
              have X7 := Lib.hid (show ∃ y d m, St w1.heap.size w1 w7 (w1.heap.size + 2) y d m ∧ Fl d n L ∧ m ≤ 120 + 2 * (k + 1) ∧ Pages w7 y.foot v6 n L from
                ⟨_, _, _, s7, FI.out.doA SI.out.good _ (.inr HQ.out.symm), by have := MI.out; omega, (PI.out.below ((Below.refl _ wr).alloc (Nat.le_refl _) _)).kp k7⟩)
              clear s7 k7 SI FI MI PI AK c0 c1 c2 c3 c4 c5 hq
              go_wp2_with fail
              go_roundw
              case rel => exact ⟨k + 1, by omega, by go_num, X7.out⟩
              case measure => simp [intOf]; omega
            · have hq0' : ((q : Int) == 0) = false := beq_eq_false_iff_ne.2 (by omega)
              have hq2' : ((q : Int) == 2) = false := beq_eq_false_iff_ne.2 (by omega)
              have X7 := Lib.hid (show ∃ y d m, St w1.heap.size w1 (wr.alloc (.cells (f2 k).cells 35)) (w1.heap.size + 2) y d m ∧ Fl d n L ∧ m ≤ 120 + 2 * (k + 1) ∧ Pages (wr.alloc (.cells (f2 k).cells 35)) y.foot v6 n L from
                ⟨_, _, _, SI.out.alloc _, FI.out, by have := MI.out; omega, PI.out.below ((Below.refl _ wr).alloc (Nat.le_refl _) _)⟩)
              clear SI FI MI PI AK hq0 hq2
              go_wp2_with fail
              go_roundw
              case rel => exact ⟨k + 1, by omega, by go_num, X7.out⟩
              case measure => simp [intOf]; omega
        · obtain rfl : k = len2 := by omega
          have HMB := Lib.hid (show m ≤ 300 by have := MI.out; omega)
          clear MI
          go_wp2_with fail
          refine (dead_any SI.out.is).mono ?_
          rintro e w7 ⟨rfl, rfl⟩
          by_cases hd : d.dead = true
          · rw [hd]
            have HO := Lib.hid (FI.out.dead hd)
            clear hd
            go_wp2_with fail
            refine (SI.out.waits (by have := HMB.out; omega)).mono ?_
            rintro e w8 ⟨v8, rfl, o8, s8, b8⟩
            obtain ⟨A8, c8, rfl, _, _, _⟩ := o8.form
            have P8 := Lib.hid (PI.out.below b8)
            have S8 := Lib.hid s8
            obtain ⟨l8, hl8⟩ : ∃ l8, l8 = (ints d.order).length := ⟨_, rfl⟩
            rw [← hl8]
            have hpos : 0 < l8 := by
              rw [hl8, ints_len]
              exact List.length_pos_iff.2 HO.out
            clear o8 s8 b8 hl8 SI PI
            go_wp2_with fail
            refine (S8.out.restart (by have := HMB.out; omega) none 0 0 [] (RdI.nil _ _) rfl (fun h => by simp at h)).mono ?_
            rintro e w9 ⟨rfl, y9, s9, k9⟩
            have P9 := Lib.hid (P8.out.kp k9)
            have S9 := Lib.hid s9
            clear s9 k9 S8 P8
            have hgt : (0 : Int) < (l8 : Int) := by omega
            go_wp2_with fail
            refine (all_any S9.out rfl).mono ?_
            rintro e w10 ⟨v10, rfl, s10, b10, p10⟩
            have e1 : (d.restart []).n = n := (restart_n _ _).trans FI.out.n
            rw [e1] at p10
            have PA := Lib.hid p10
            have PB := Lib.hid (P9.out.below b10)
            have S10 := Lib.hid s10
            have HEQ := Lib.hid (show ∀ i, i < n → (d.restart []).page i = L i from fun i _ => by rw [restart_page, restart_nilfates]; exact FI.out.last i)
            clear s10 b10 p10 S9 P9 e1
            go_wp2_with fail
            refine (same_any w10 v10 v6 n _ _ PA.out PB.out HEQ.out (by have := HN.out.2; omega)).mono ?_
            rintro e w11 ⟨rfl, b11⟩
            have HZ := Lib.hid (S10.out.bel.trans (b11.mono S10.out.bel.size))
            have HS := Lib.hid HZ.out.size
            clear b11 S10 PA PB
            go_wp2_with fail
            refine (goes_any w11).mono ?_
            rintro e w12 ⟨rfl, hb⟩
            have HB := Lib.hid hb
            clear hb
            go_wp2_with fail
            go_ret
            exact ⟨rfl, HZ.out.trans (HB.out.mono HS.out)⟩
          · have hd' : d.dead = false := by simpa using hd
            rw [hd']
            have HD := Lib.hid hd'
            clear hd hd'
            go_wp2_with fail
            refine (all_any SI.out HD.out).mono ?_
            rintro e w8 ⟨v8, rfl, s8, b8, p8⟩
            rw [FI.out.n] at p8
            have S8 := Lib.hid s8
            have P6' := Lib.hid (PI.out.below b8)
            have P8 := Lib.hid p8
            clear s8 b8 p8 SI PI
            go_wp2_with fail
            refine (S8.out.restart (by have := HMB.out; omega) A3 cap3 len3 l3 ((HA3.out.below S8.out.bel).more S8.out.bel.size) HL3.out (fun h0 x hx hf => ?_)).mono ?_
            · have h1 := S8.out.low _ hf
              obtain ⟨b, o, e, hb, _⟩ := HA3.out.2.2.2 h0
              rw [hx] at e
              injection e with e
              subst e
              exact absurd h1 (Nat.not_le_of_lt hb)
            rintro e w9 ⟨rfl, y9, s9, k9⟩
            have P6 := Lib.hid (P6'.out.kp k9)
            have P9 := Lib.hid (P8.out.kp k9)
            have S9 := Lib.hid s9
            have LEN := Lib.hid (And.intro (fun i hi => S8.out.is.lastLen i hi) (And.intro (fun i hi => page_len S8.out.is i hi) S8.out.good))
            clear s9 k9 S8 P6' P8
            go_wp2_with fail
            refine (all_any S9.out rfl).mono ?_
            rintro e w10 ⟨v10, rfl, s10, b10, p10⟩
            have e1 : (d.restart l3).n = n := (restart_n _ _).trans FI.out.n
            rw [e1] at p10
            obtain ⟨Aa, ca, rfl, pa⟩ := (P6.out.below b10).form
            obtain ⟨Ab, cb, rfl, pb⟩ := (P9.out.below b10).form
            obtain ⟨Ac, cc, rfl, pc⟩ := p10.form
            have PA := Lib.hid pa
            have PB := Lib.hid pb
            have PC := Lib.hid pc
            have BZ := Lib.hid s10.bel
            clear s10 b10 p10 S9 P6 P9 e1 pa pb pc
            go_wp2_with fail
            go_loopw [18] (fun v wr => ∃ j : Nat, j ≤ n ∧ v = .int .i64 j ∧ wr = w10) (fun v _ => n - (intOf v).toNat)
            case atStart => exact ⟨0, Nat.zero_le _, rfl, rfl⟩
            case round =>
              obtain ⟨j, hj, rfl, rfl⟩ := hrel
              have hn12 : n ≤ 12 := HN.out.2
              by_cases hjn : j < n
              · obtain ⟨ga, rfl, xa⟩ := PA.out (by omega)
                obtain ⟨gb, rfl, xb⟩ := PB.out (by omega)
                obtain ⟨gc, rfl, xc⟩ := PC.out (by omega)
                obtain ⟨ba, ka, ca1, oa⟩ := xa j hjn
                obtain ⟨bb, kb, cb1, ob⟩ := xb j hjn
                obtain ⟨bc, kc, cc1, oc⟩ := xc j hjn
                have OA := Lib.hid oa
                have OB := Lib.hid ob
                have OC := Lib.hid oc
                have SEC := Lib.hid (fun q (hq : q < 8) => now_sector LEN.out.2.2 l3 j (LEN.out.1 j (by rw [FI.out.n]; exact hjn)) (LEN.out.2.1 j (by rw [FI.out.n]; exact hjn)) q hq)
                have HLj := Lib.hid (FI.out.last j)
                clear xa xb xc oa ob oc
                go_wp2_with fail
                go_loopw [19] (fun v wz => ∃ q : Nat, q ≤ 8 ∧ v = .int .i64 ((512 * q : Nat) : Int) ∧ wz = wr) (fun v _ => 4096 - (intOf v).toNat)
                case atStart => exact ⟨0, by omega, rfl, rfl⟩
                case round =>
                  obtain ⟨q, hq, rfl, rfl⟩ := hrel
                  by_cases hlt : q < 8
                  · obtain ⟨p, hp⟩ : ∃ p, p = 512 * q := ⟨_, rfl⟩
                    rw [← hp]
                    have r1 := run_sector wr bc kc p q _ OC.out hp hlt
                    have r2 := run_sector wr ba ka p q _ OA.out hp hlt
                    have r3 := run_sector wr bb kb p q _ OB.out hp hlt
                    have s1 := run_cut p bc kc (by have := (own_parts OC.out).2.1; omega)
                    have s2 := run_cut p ba ka (by have := (own_parts OA.out).2.1; omega)
                    have s3 := run_cut p bb kb (by have := (own_parts OB.out).2.1; omega)
                    have hsec := SEC.out q hlt
                    rw [HLj.out] at hsec
                    have hp8 : (p : Int) < 4096 := by omega
                    have HPQ := Lib.hid hp
                    by_cases hx : sector ((d.restart l3).page j) q = sector (L j) q
                    · rw [hx] at r1
                      generalize str (sector (L j) q) = t1 at r1 r2
                      generalize str (sector (d.page j) q) = t2 at r3
                      clear hsec hx hp
                      go_wp2_with fail
                      go_roundw
                      case rel => exact ⟨q + 1, by omega, congrArg (Value.int .i64) (by have := HPQ.out; omega), trivial⟩
                      case measure => simp [intOf]; have := HPQ.out; omega
                    · have hx2 := hsec.resolve_left hx
                      have hne : ¬ str (sector ((d.restart l3).page j) q) = str (sector (L j) q) := fun e => hx (str_inj e)
                      have hnl : ¬ (str (sector ((d.restart l3).page j) q)).toList = (str (sector (L j) q)).toList := fun e => hx (by rw [str_toList, str_toList] at e; exact e)
                      rw [hx2] at r1 hne hnl
                      generalize str (sector (L j) q) = t1 at r2 hne hnl
                      generalize str (sector (d.page j) q) = t2 at r1 r3 hne hnl
                      clear hsec hx hx2 hp
                      go_wp2_with fail
                      go_roundw
                      case rel => exact ⟨q + 1, by omega, congrArg (Value.int .i64) (by have := HPQ.out; omega), trivial⟩
                      case measure => simp [intOf]; have := HPQ.out; omega
                  · obtain rfl : q = 8 := by omega
                    go_wp2_with fail
                    go_roundw
                    case rel => exact ⟨j + 1, by omega, by go_num, trivial⟩
                    case measure => simp [intOf]; omega
              · obtain rfl : j = n := by omega
                have HS := Lib.hid BZ.out.size
                go_wp2_with fail
                refine (goes_any wr).mono ?_
                rintro e w12 ⟨rfl, hb⟩
                have HB := Lib.hid hb
                clear hb
                go_wp2_with fail
                go_ret
                exact ⟨rfl, BZ.out.trans (HB.out.mono HS.out)⟩
end Go.Proofs.Ytpnnakjffcohoaa
