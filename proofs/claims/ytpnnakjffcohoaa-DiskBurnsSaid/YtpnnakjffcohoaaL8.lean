import Derived.Test.YtpnnakjffcohoaaL7
namespace Go.Proofs.Ytpnnakjffcohoaa
set_option linter.unusedVariables false
set_option linter.unusedSimpArgs false
open Go.RowKit Mem Go.ChangeMaps
variable {w : World}

/-- A byte of the page that was torn. -/
theorem burnt_byte (f : Int) (s : Nat) (hs : s < 8) (j : Nat) (hj : j / 512 = s) (pc : List UInt8) (hpc : pc = pageOf (u8 200) (u8 200) ((0 : Int).toNat % 8)) : bv ((torn f zpage pc).getD j 0) = .int .u8 (if bit f s = true then 200 else 0) := by
  have hl : pc.length = 4096 := by rw [hpc]; exact pageOf_len _ _ _
  rw [torn_at f _ _ zpage_len hl j (by omega), hj, zpage_at, hpc, pageOf_at _ _ _ _ (by omega)]
  unfold pageAt
  rw [ite_self]
  by_cases h : bit f s = true
  · rw [if_pos h, if_pos h]; exact bv_u8 200 (by omega) (by omega)
  · rw [if_neg h, if_neg h]; rfl

set_option maxRecDepth 20000 in
set_option maxHeartbeats 4000000 in
theorem diskBurns_core (n f : Int) (hn0 : 0 ≤ n) (hn1 : n < 256) (hf0 : 0 ≤ f) (hf1 : f < 256) (w : World) :
    Calls Try.prog 6 #[.int .u8 n, .int .u8 f] w fun e w' => e = .returned (.bool true) ∧ Below w.heap.size w w' := by
  have hk : n.tmod 30 = ((n.toNat % 30 : Nat) : Int) := by rw [Int.tmod_eq_emod_of_nonneg hn0]; omega
  obtain ⟨k, hkk⟩ : ∃ k, k = n.toNat % 30 := ⟨_, rfl⟩
  rw [← hkk] at hk
  have hk30 : k < 30 := by omega
  have HF := Lib.hid (And.intro hf0 hf1)
  have hand : ∀ s : Nat, bits .and .u8 (f / 2 ^ s) 1 = f / 2 ^ s % 2 := fun s => by
    have h1 : (0 : Int) < 2 ^ s := Int.pow_pos (by omega)
    have h2 : 0 ≤ f / 2 ^ s := Int.ediv_nonneg hf0 (by omega)
    have h3 : f / 2 ^ s ≤ f := Int.ediv_le_self _ hf0
    exact u8_and1 _ h2 (by omega)
  have HAND := Lib.hid hand
  have hwn : wrap64 n = n := by unfold wrap64; omega
  have hwf : wrap64 f = f := by unfold wrap64; omega
  clear hkk hn0 hn1 hf0 hf1 hand
  go_enter Try.func6, Try.ntmps6
  go_wp2_with fail
  refine (St.new 3 _ (by omega) (by omega)).mono ?_
  rintro e w1 ⟨rfl, s1⟩
  have S1 := Lib.hid s1
  clear s1
  go_wp2_with fail
  refine (S1.out.fuse k (by omega)).mono ?_
  rintro e w2 ⟨rfl, s2, _⟩
  have S2 := Lib.hid s2
  have B2 := Lib.hid (Bn.start k)
  clear s2 S1
  go_wp2_with fail
  go_loopw [8] (fun v wr => ∃ i : Nat, i ≤ k ∧ v = .int .i64 i ∧ Hid (∃ y d m, St w.heap.size w wr (w.heap.size + 2) y d m ∧ Bn d k i ∧ m = 2 * i)) (fun v _ => k - (intOf v).toNat)
  case atStart => exact ⟨0, Nat.zero_le _, rfl, _, _, _, S2.out, B2.out, rfl⟩
  case round =>
    obtain ⟨i, hi, rfl, hX⟩ := hrel
    obtain ⟨y, d, m, s, hb, hm⟩ := hX.out
    have SI := Lib.hid s
    have BI := Lib.hid hb
    clear hX s hb
    by_cases hlt : i < k
    · have hw8 : ((i : Nat) : Int) % 256 = (i : Int) := by omega
      go_wp2_with fail
      refine (dead_any SI.out.is).mono ?_
      rintro e w3 ⟨rfl, rfl⟩
      rw [BI.out.dead]
      go_wp2_with fail
      refine (page_any i i 0 (by omega) (by omega) (by omega) (by omega) (by omega) (by omega) w3).mono ?_
      rintro e w4 ⟨rfl, rfl⟩
      obtain ⟨pa, hpa⟩ : ∃ pa, pa = pageOf (u8 i) (u8 i) ((0 : Int).toNat % 8) := ⟨_, rfl⟩
      have HA := Lib.hid (show pa.length = 4096 by rw [hpa]; exact pageOf_len _ _ _)
      rw [← hpa]
      clear hpa
      go_wp2_with fail
      refine (SI.out.write 1 pa HA.out (by omega)).mono ?_
      rintro e w5 ⟨rfl, y5, s5, _⟩
      rw [(BI.out.step hlt pa).1]
      have S5 := Lib.hid s5
      have B5 := Lib.hid (BI.out.step hlt pa).2
      clear s5 SI BI
      go_wp2_with fail
      go_roundw
      case rel => exact ⟨i + 1, by omega, by go_num, _, _, _, S5.out, B5.out, by omega⟩
      case measure => simp [intOf]; omega
    · obtain rfl : i = k := by omega
      clear hk hwn
      go_wp2_with fail
      refine (dead_any SI.out.is).mono ?_
      rintro e w3 ⟨rfl, rfl⟩
      rw [BI.out.dead]
      go_wp2_with fail
      refine (page_any 200 200 0 (by omega) (by omega) (by omega) (by omega) (by omega) (by omega) w3).mono ?_
      rintro e w4 ⟨rfl, rfl⟩
      obtain ⟨pc, hpc⟩ : ∃ pc, pc = pageOf (u8 200) (u8 200) ((0 : Int).toNat % 8) := ⟨_, rfl⟩
      have HA := Lib.hid (show pc.length = 4096 by rw [hpc]; exact pageOf_len _ _ _)
      have HPC := Lib.hid hpc
      rw [← hpc]
      clear hpc
      obtain ⟨t1, t2, t3, t4, t5, t6, _⟩ := BI.out.ends pc
      have HP := Lib.hid (BI.out.page pc f)
      go_wp2_with fail
      refine (SI.out.write 2 pc HA.out (by omega)).mono ?_
      rintro e w5 ⟨rfl, y5, s5, _⟩
      rw [t1]
      have S5 := Lib.hid s5
      have T := Lib.hid (And.intro t2 (And.intro t3 (And.intro t4 (And.intro t5 t6))))
      clear s5 SI BI t1 t2 t3 t4 t5 t6
      generalize d.doW 2 pc = d5 at S5 T HP
      go_wp2_with fail
      refine (dead_any S5.out.is).mono ?_
      rintro e w6 ⟨rfl, rfl⟩
      rw [T.out.1]
      go_wp2_with fail
      refine (S5.out.read 0).mono ?_
      rintro e w7 ⟨v7, rfl, _, hv7, s7, _⟩
      rw [T.out.2.1] at hv7 ⊢
      obtain rfl := hv7 (by omega)
      have S7 := Lib.hid s7
      clear s7 S5 hv7
      go_wp2_with fail
      refine (page_any 1 1 0 (by omega) (by omega) (by omega) (by omega) (by omega) (by omega) w7).mono ?_
      rintro e w8 ⟨rfl, rfl⟩
      obtain ⟨pq, hpq⟩ : ∃ pq, pq = pageOf (u8 1) (u8 1) ((0 : Int).toNat % 8) := ⟨_, rfl⟩
      have HQ := Lib.hid (show pq.length = 4096 by rw [hpq]; exact pageOf_len _ _ _)
      rw [← hpq]
      clear hpq
      go_wp2_with fail
      refine (S7.out.write 0 pq HQ.out (by omega)).mono ?_
      rintro e w9 ⟨rfl, y9, s9, _⟩
      rw [(T.out.2.2.2.2 0 pq).1]
      rw [(T.out.2.2.2.2 0 pq).2] at s9
      have S9 := Lib.hid s9
      clear s9 S7
      go_wp2_with fail
      refine (S9.out.flush (by omega)).mono ?_
      rintro e w10 ⟨rfl, y10, s10, _⟩
      rw [T.out.2.2.1]
      rw [T.out.2.2.2.1] at s10
      have S10 := Lib.hid s10
      clear s10 S9 T
      go_upto_if 84 with fail
      go_cut [11] (fun v wz => Hid (∃ g fs, v = .slice (some ⟨g, 0, none⟩) fs.length fs.length ∧ St w.heap.size w wz (w.heap.size + 2) y10 d5 (m + 2 + 2) ∧ RdI wz wz.heap.size (some ⟨g, 0, none⟩) fs.length fs ∧ ¬ y10.foot g ∧ fs = if i = 0 then [f] else [0, f]))
      case first =>
        have S11 := Lib.hid (S10.out.alloc (.cells #[.int .i64 f] 3))
        by_cases hi0 : i = 0
        · have h1 := RdI.lit w10 [f] (by simp [maxLen])
          have HR := Lib.hid (show ∃ g fs, Value.slice (some ⟨w10.heap.size, 0, none⟩) 1 1 = .slice (some ⟨g, 0, none⟩) fs.length fs.length ∧ St w.heap.size w (w10.alloc (.cells #[.int .i64 f] 3)) (w.heap.size + 2) y10 d5 (m + 2 + 2) ∧ RdI (w10.alloc (.cells #[.int .i64 f] 3)) (w10.alloc (.cells #[.int .i64 f] 3)).heap.size (some ⟨g, 0, none⟩) fs.length fs ∧ ¬ y10.foot g ∧ fs = if i = 0 then [f] else [0, f] from
            ⟨w10.heap.size, [f], rfl, S11.out, h1, fresh_not S10.out.is _ (Nat.le_refl _), by rw [if_pos hi0]⟩)
          clear h1
          have hi0' : ¬ (0 : Int) < (i : Int) := by omega
          clear hi0
          go_wp2_with fail
          go_meet
          case rel => exact HR.out
        · have h1 := RdI.lit (w10.alloc (.cells #[.int .i64 f] 3)) [0, f] (by simp [maxLen])
          have e9 : (w10.alloc (.cells #[.int .i64 f] 3)).heap.size = w10.heap.size + 1 := size_alloc' _ _
          rw [e9] at h1
          have HR := Lib.hid (show ∃ g fs, Value.slice (some ⟨w10.heap.size + 1, 0, none⟩) 2 2 = .slice (some ⟨g, 0, none⟩) fs.length fs.length ∧ St w.heap.size w ((w10.alloc (.cells #[.int .i64 f] 3)).alloc (.cells #[.int .i64 0, .int .i64 f] 3)) (w.heap.size + 2) y10 d5 (m + 2 + 2) ∧ RdI ((w10.alloc (.cells #[.int .i64 f] 3)).alloc (.cells #[.int .i64 0, .int .i64 f] 3)) ((w10.alloc (.cells #[.int .i64 f] 3)).alloc (.cells #[.int .i64 0, .int .i64 f] 3)).heap.size (some ⟨g, 0, none⟩) fs.length fs ∧ ¬ y10.foot g ∧ fs = if i = 0 then [f] else [0, f] from
            ⟨w10.heap.size + 1, [0, f], rfl, S11.out.alloc _, h1, fresh_not S10.out.is _ (Nat.le_succ _), by rw [if_neg hi0]⟩)
          clear h1
          have hi0' : (0 : Int) < (i : Int) := by omega
          clear hi0
          go_wp2_with fail
          go_meet
          case rel => exact HR.out
      case rest =>
        obtain ⟨g, fs, rfl, s11, hr, hng, hfs⟩ := hcut.out
        obtain ⟨p1, p2, p3⟩ := HP.out fs hfs
        have S11 := Lib.hid s11
        have HR := Lib.hid hr
        have NG := Lib.hid hng
        have PP := Lib.hid (And.intro p1 (And.intro p2 p3))
        clear hcut s11 hr hng hfs p1 p2 p3 HP S10
        obtain ⟨fl, hfl⟩ : ∃ n, n = fs.length := ⟨_, rfl⟩
        rw [← hfl]
        have HFL := Lib.hid hfl
        clear hfl
        go_wp2_with fail
        refine (S11.out.restart (by omega) _ fl fl fs (by rw [HFL.out]; exact HR.out) HFL.out.symm (fun _ a e hx => by injection e with e; subst e; exact NG.out hx)).mono ?_
        rintro e w12 ⟨rfl, y12, s12, _⟩
        have S12 := Lib.hid s12
        clear s12 S11 HR NG
        generalize d5.restart fs = d6 at S12 PP
        go_wp2_with fail
        refine (S12.out.read 2).mono ?_
        rintro e w13 ⟨v, rfl, ho, _, s13, _⟩
        rw [PP.out.1] at ho ⊢
        have ho := ho rfl
        have e0 : d6.page (2 : Int).toNat = torn f zpage pc := PP.out.2.1
        rw [e0] at ho
        obtain ⟨gb, cb, rfl, _, _, hc⟩ := Own.byte ho (torn_len _ _ _ zpage_len HA.out)
        have HC := Lib.hid hc
        have S13 := Lib.hid s13
        clear ho hc s13 S12 e0
        go_wp2_with fail
        go_loopw [14] (fun v wr => ∃ q : Nat, q ≤ 8 ∧ v = .int .i64 q ∧ wr = w13) (fun v _ => 8 - (intOf v).toNat)
        case atStart => exact ⟨0, by omega, rfl, rfl⟩
        case round =>
          obtain ⟨q, hq, rfl, rfl⟩ := hrel
          by_cases hlt : q < 8
          · obtain ⟨p, hp⟩ : ∃ p, p = 512 * q := ⟨_, rfl⟩
            have e1 : 512 * (q : Int) = (p : Int) := by omega
            have b1 : (p : Int) + 511 < 4096 := by omega
            have x1 : wr.cell? ⟨gb, p, none⟩ = some (.int .u8 (if bit f q = true then 200 else 0)) := by rw [HC.out p (by omega), burnt_byte f q hlt p (by omega) pc HPC.out]
            have x2 : wr.cell? ⟨gb, p + 511, none⟩ = some (.int .u8 (if bit f q = true then 200 else 0)) := by rw [HC.out (p + 511) (by omega), burnt_byte f q hlt (p + 511) (by omega) pc HPC.out]
            have hand := HAND.out q
            have HPQ := Lib.hid hp
            clear hp
            by_cases hb : bit f q = true
            · have hb' : f / 2 ^ q % 2 = 1 := by simpa [bit] using hb
              rw [if_pos hb] at x1 x2
              clear hb
              go_wp2_with fail
              go_roundw
              case rel => exact ⟨q + 1, by omega, by go_num, trivial⟩
              case measure => simp [intOf]; omega
            · have hb' : ¬ f / 2 ^ q % 2 = 1 := by simpa [bit] using hb
              rw [if_neg hb] at x1 x2
              clear hb
              go_wp2_with fail
              go_roundw
              case rel => exact ⟨q + 1, by omega, by go_num, trivial⟩
              case measure => simp [intOf]; omega
          · obtain rfl : q = 8 := by omega
            go_wp2_with fail
            refine (S13.out.flush (by omega)).mono ?_
            rintro e w14 ⟨rfl, y14, s14, _⟩
            rw [PP.out.2.2]
            have HZ := Lib.hid s14.bel
            have HS := Lib.hid HZ.out.size
            clear s14 S13
            go_wp2_with fail
            refine (goes_any w14).mono ?_
            rintro e w15 ⟨rfl, hb⟩
            have HB := Lib.hid hb
            clear hb
            go_wp2_with fail
            go_ret
            exact ⟨rfl, HZ.out.trans (HB.out.mono HS.out)⟩
open Go.ChangeShapes Go.WideShapes Go.Deep in
theorem diskBurns_walk (n f : Int) (w : World) (wn : (Lit.int .u8 n).wf = true) (wf : (Lit.int .u8 f).wf = true) : Calls Try.prog 6 #[.int .u8 n, .int .u8 f] w fun e w' => e = .returned (.bool true) ∧ Below w.heap.size w w' :=
  diskBurns_core n f (bounds_u8 wn).1 (by have := (bounds_u8 wn).2; omega) (bounds_u8 wf).1 (by have := (bounds_u8 wf).2; omega) w
end Go.Proofs.Ytpnnakjffcohoaa
