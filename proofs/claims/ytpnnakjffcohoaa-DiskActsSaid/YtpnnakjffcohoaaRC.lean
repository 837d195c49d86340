import Derived.Test.YtpnnakjffcohoaaRB
import Derived.Test.YtpnnakjffcohoaaL4
import Derived.Test.YtpnnakjffcohoaaS2
namespace Go.Proofs.Ytpnnakjffcohoaa
set_option linter.unusedVariables false
set_option linter.unusedSimpArgs false
open Go.RowKit Mem Go.ChangeMaps

theorem ActOk.below {w w' : World} {B : Nat} {a : ActD} (h : ActOk w B a) (hb : Below B w w') : ActOk w' B a := ⟨h.d, h.l, h.m, h.bb, h.cb, h.sb, h.fl, h.fr.below hb⟩
theorem doA_rn (r : Rfd) (a : ActD) : (r.doA a).n = r.n := by
  have hW : ∀ i l, (r.doW i l).n = r.n := fun i l => by
    unfold Rfd.doW
    split
    · rfl
    · split
      · exact (counted_same _).1
      · rfl
  unfold Rfd.doA
  split
  · exact hW _ _
  · unfold Rfd.doF
    split
    · rfl
    · split
      · rw [(ended_same _ _ _).1]; exact (counted_same _).1
      · exact (counted_same _).1
  · unfold Rfd.fuse; split <;> rfl
  · rfl
  · exact (ended_same _ _ _).1
  · exact hW _ _
  · rfl

/-- What Read gave, as a string. -/
theorem conv_read {w : World} {base : Nat} {v : Value} (r : Rfd) (i : Int) (h1 : r.ref i = 0 → Own 5 w base v (r.page i.toNat)) (h2 : r.ref i ≠ 0 → v = .slice none 0 0) : (convert 42 9 v).run Try.prog w = .ok (.string (r.rd i)) w := by
  unfold Rfd.rd
  by_cases h0 : r.ref i = 0
  · rw [if_pos h0]; exact run_str_own w (h1 h0)
  · rw [if_neg h0, h2 h0]; exact run_convert_bytes_nil (P := Try.prog) w 42 5 Try.underlying42 Try.underlying5 _ _ 9 Try.underlying9

set_option maxRecDepth 20000 in
set_option maxHeartbeats 4000000 in
theorem diskActs_walk (a0 : Int) (A1 : Option Addr) (len1 cap1 : Nat) (f1 : Nat → ActD) (w : World) (w0 : (Lit.int .i64 a0).wf = true) (w1 : Acts w w.heap.size A1 len1 cap1 f1) :
    Calls Try.prog 3 #[.int .i64 a0, .slice A1 len1 cap1] w fun e w' => e = .returned (.bool true) ∧ Below w.heap.size w w' := by
  have HA1 := Lib.hid w1
  have hb0 := bounds_i64 w0
  have hcap : (len1 : Int) ≤ 9223372036854775807 := by have := w1.1; have := w1.2.1; unfold maxLen at this; omega
  clear w0 w1
  go_enter Try.func3, Try.ntmps3
  go_wp2_with fail
  refine (great_any A1 len1 cap1 f1 w _ HA1.out).mono ?_
  rintro e w1 ⟨r1, rfl, rfl, hr1⟩
  have HR1 := Lib.hid hr1
  clear hr1
  by_cases g1 : 0 < r1
  · go_wp2_with fail
    go_ret
    exact ⟨rfl, Below.refl _ _⟩
  obtain ⟨hlen1, hf1⟩ := HR1.out.out g1
  have HF1 := Lib.hid (And.intro hlen1 hf1)
  clear hlen1 hf1 HR1
  by_cases g2 : 12 < a0 ∧ a0 ≤ 4096
  · obtain ⟨g3, g4⟩ := g2
    go_wp2_with fail
    go_ret
    exact ⟨rfl, Below.refl _ _⟩
  by_cases g3 : a0 < 1 ∨ 4096 < a0
  · have hnb := Lib.hid (new_bad a0 w1 g3)
    have hgo := Lib.hid (goes_any w1)
    by_cases g4 : a0 < 1
    · have g5 : ¬ 12 < a0 := by omega
      clear g2 g3
      go_wp2_with (first
        | (go_at_call 10; refine hnb.out.mono ?_; rintro e w2 ⟨rfl, rfl⟩)
        | (go_at_call 11; refine hgo.out.mono ?_; rintro e w3 ⟨rfl, hb3⟩; have B3 := Lib.hid hb3; clear hb3))
      go_ret
      exact ⟨rfl, B3.out⟩
    · have g5 : 4096 < a0 := by omega
      clear g2 g3
      go_wp2_with (first
        | (go_at_call 10; refine hnb.out.mono ?_; rintro e w2 ⟨rfl, rfl⟩)
        | (go_at_call 11; refine hgo.out.mono ?_; rintro e w3 ⟨rfl, hb3⟩; have B3 := Lib.hid hb3; clear hb3))
      go_ret
      exact ⟨rfl, B3.out⟩
  obtain ⟨n, hn⟩ : ∃ n : Nat, a0 = n := ⟨a0.toNat, by omega⟩
  subst hn
  have hn1 : 1 ≤ n := by omega
  have hn2 : n ≤ 12 := by omega
  have g5 : ¬ (12 : Int) < n := by omega
  clear g2 g3
  go_wp2_with fail
  refine (St.new n _ hn1 (by omega)).mono ?_
  rintro e wn ⟨rfl, s0⟩
  have S0 := Lib.hid s0
  clear s0 g1
  go_wp2_with fail
  refine (rnew_any n wn hn1 (by omega)).mono ?_
  rintro e w2 ⟨rfl, lv, hr2, hb2, hlo2⟩
  have T0 : Hid (Two w1.heap.size w1 w2 (w1.heap.size + 2) (newY w1.heap.size) (toD (newR n)) 0 wn.heap.size lv (.slice none 0 0) (newR n)) := Lib.hid
    ⟨S0.out.keep hb2, hr2, fun k hk => Nat.le_trans S0.out.bel.size (hlo2 k hk), fun k hk hr => by have h1 := hlo2 k hr; have h2 := S0.out.is.foot k hk; omega⟩
  have HS : Hid (∀ W : World, Calls Try.prog 13 #[ptr (w1.heap.size + 2)] w2 fun e w' => e = .returned (.int .i64 n) ∧ w' = w2) := Lib.hid fun _ => (size_any T0.out.st.is)
  generalize wn.heap.size = rb at T0 ⊢
  clear hr2 hb2 hlo2 S0
  go_wp2_with (go_at_call 13; refine (HS.out w2).mono ?_; rintro e w3 ⟨rfl, rfl⟩)
  clear HS
  have HN := Lib.hid (And.intro hn1 hn2)
  clear hn1 hn2 g5
  go_loopw [8] (fun v wr => ∃ k : Nat, k ≤ len1 ∧ v = .int .i64 k ∧ Hid (∃ y m sv r, Two w1.heap.size w1 wr (w1.heap.size + 2) y (toD r) m rb lv sv r ∧ r.n = n ∧ m = 2 * k ∧ r.since.length ≤ k)) (fun v _ => len1 - (intOf v).toNat)
  case atStart => exact ⟨0, Nat.zero_le _, rfl, _, _, _, _, T0.out, rfl, rfl, Nat.le_refl _⟩
  case round =>
    obtain ⟨k, hk, rfl, hX⟩ := hrel
    obtain ⟨y, m, sv, r, t, hrn, hm, hsl⟩ := hX.out
    have TT := Lib.hid t
    have DN := Lib.hid (And.intro hrn (And.intro hm hsl))
    clear hX t hrn hm hsl T0
    have hl60 : len1 ≤ 60 := HF1.out.1
    by_cases hlt : k < len1
    · obtain ⟨b, o, hbo, hb, hc⟩ := HA1.out.2.2 (by omega)
      subst hbo
      have hcc := Lib.hid (hc k hlt)
      have HBB := Lib.hid hb
      clear hb hc
      have hm12 : m < 999999999 := by have := DN.out.2.1; omega
      have hs12 : r.since.length ≤ 1000000 := by have := DN.out.2.2; omega
      go_upto_region 12 with fail
      go_cut [89] from 62 to 139 (fun v wz => v = .bool false ∧ Hid (∃ y sv, Two w1.heap.size w1 wz (w1.heap.size + 2) y (toD (r.doA (f1 k))) (m + 2) rb lv sv (r.doA (f1 k))))
      case first =>
        have TD := Lib.hid TT.out.drew
        have AD := Lib.hid (hcc.out.below (w' := wr.drew) (TT.out.st.bel.drew) HBB.out)
        have c0 := AD.out.c0
        have c1 := AD.out.c1
        have c2 := AD.out.c2
        have c3 := AD.out.c3
        have c4 := AD.out.c4
        have c5 := AD.out.c5
        have hgd := TT.out.is.rgood
        have HBA : Hid ((f1 k).b < 256) := Lib.hid AD.out.bb
        have EA := Lib.hid (toD_ansA r (f1 k) HBA.out)
        have ED := Lib.hid (toD_doA r hgd (f1 k) HBA.out)
        clear hgd
        go_region_with (first
          | (go_at_call 14; refine (does_any TD.out.st (f1 k) AD.out.ok hm12).mono ?_; rintro e w4 ⟨rfl, y4, s4, k4⟩; rw [← EA.out]; rw [← ED.out] at s4; have T4 := Lib.hid (TD.out.left s4 k4); have A4 := Lib.hid (hcc.out.below s4.bel HBB.out); have x0 := A4.out.c0; have x1 := A4.out.c1; have x2 := A4.out.c2; have x3 := A4.out.c3; have x4 := A4.out.c4; have x5 := A4.out.c5; clear s4 k4)
          | (go_at_call 15; refine (told_any T4.out.is hs12 (f1 k) A4.out.ok T4.out.baseLe T4.out.low).mono ?_; rintro e w5 ⟨rfl, sv5, i5, k5⟩; have T5 := Lib.hid (T4.out.right i5 k5); have x6 := i5.c3; clear i5 k5)
          | (go_at_call 16; refine (dead_any T5.out.st.is).mono ?_; rintro e w6 ⟨rfl, rfl⟩; rw [show (toD (r.doA (f1 k))).dead = (r.doA (f1 k)).dead from rfl])
          | fail)
        all_goals
          go_wp2_with fail
          go_meet
          case rel => exact ⟨by simp, Lib.hid ⟨_, _, T5.out⟩⟩
      case rest =>
        obtain ⟨rfl, hT⟩ := hcut
        obtain ⟨y6, sv6, t6⟩ := hT.out
        have T6 := Lib.hid t6
        have hs6 : (r.doA (f1 k)).since.length ≤ 1000000 := by have := since_doA r (f1 k); have := DN.out.2.2; omega
        have hm6 : m + 2 < 1000000000 := by have := DN.out.2.1; omega
        have N6 := Lib.hid (show (r.doA (f1 k)).n = n from (doA_rn _ _).trans DN.out.1)
        have S6 := Lib.hid (since_doA r (f1 k))
        obtain ⟨r6, hr6⟩ : ∃ r6, r.doA (f1 k) = r6 := ⟨_, rfl⟩
        rw [hr6] at T6 hs6 N6 S6
        clear t6 hT TT hcc hr6 hm12 hs12
        have HM6 := Lib.hid hm6
        have HS6 := Lib.hid hs6
        clear hm6 hs6
        obtain ⟨L, hL⟩ : ∃ L, ints (firsts r6.since) = L := ⟨_, rfl⟩
        have HL := Lib.hid hL
        have hLl : L.length ≤ 1000000 := by rw [← hL]; unfold ints; rw [List.length_map]; exact Nat.le_trans (firsts_le _) HS6.out
        clear hL
        go_wp2_with (first
          | (go_at_call 17; refine (T6.out.st.waits HM6.out).mono ?_; rintro e w7 ⟨v7, rfl, o7, _, b7⟩; rw [show (toD r6).order = firsts r6.since from rfl, HL.out] at o7; obtain ⟨A7, c7, rfl, hr7, _, _⟩ := o7.form; have R7 := Lib.hid hr7; have T7 := Lib.hid (T6.out.keep b7); clear o7 hr7 b7)
          | (go_at_call 18; refine (rwaits_any T7.out.is HS6.out).mono ?_; rintro e w8 ⟨v8, rfl, o8, b8⟩; rw [HL.out] at o8; obtain ⟨A8, c8, rfl, hr8, _, _⟩ := o8.form; have R8 := Lib.hid hr8; have Q7 := Lib.hid ((R7.out.below b8).more b8.size); have T8 := Lib.hid (T7.out.keep b8); clear o8 hr8 b8)
          | fail)
        go_loopw [11] (fun v wz => ∃ j : Nat, j ≤ L.length ∧ v = .int .i64 j ∧ Hid (Below w8.heap.size w8 wz)) (fun v _ => L.length - (intOf v).toNat)
        case atStart => exact ⟨0, Nat.zero_le _, rfl, Lib.hid (Below.refl _ _)⟩
        case round =>
          obtain ⟨j, hj, rfl, BZ⟩ := hrel
          by_cases hjl : j < L.length
          · obtain ⟨b7, o7, rfl, l7, hc7⟩ := Q7.out.2.2.2 (by omega)
            obtain ⟨b8, o8, rfl, l8, hc8⟩ := R8.out.2.2.2 (by omega)
            have d7 := (BZ.out.cell (p := ⟨b7, o7 + j, none⟩) (by have := T8.out.st.is; first | exact l7 | exact Nat.lt_of_lt_of_le l7 (by omega))).trans (hc7 j hjl)
            have d8 := (BZ.out.cell (p := ⟨b8, o8 + j, none⟩) l8).trans (hc8 j hjl)
            generalize L[j] = x at d7 d8
            clear hc7 hc8
            go_upto_region 20 with fail
            go_quiet (fail)
            go_wp2_with fail
            go_roundw
            case rel => exact ⟨j + 1, by omega, by go_num, Lib.hid (below_drewN BZ.out nq)⟩
            case measure => simp [intOf]; omega
          · obtain rfl : j = L.length := by omega
            have T9 := Lib.hid (T8.out.keep BZ.out)
            clear BZ T8 T7 R7 R8 Q7 HL hLl
            go_wp2_with fail
            go_loopw [12] (fun v wz => ∃ j : Nat, j ≤ n + 2 ∧ v = .int .i64 ((j : Int) - 1) ∧ Hid (Two w1.heap.size w1 wz (w1.heap.size + 2) y6 (toD r6) (m + 2) rb lv sv6 r6)) (fun v _ => (n + 1 - intOf v).toNat)
            case atStart => exact ⟨0, by omega, rfl, T9⟩
            case round =>
              obtain ⟨j, hj, rfl, TZ⟩ := hrel
              obtain ⟨i, hi⟩ : ∃ i, (j : Int) - 1 = i := ⟨_, rfl⟩
              rw [hi]
              have HI := Lib.hid hi
              have hij : i ≤ n + 1 := by omega
              have hi2 : -1 ≤ i := by omega
              have hn12 := HN.out.2
              clear hi
              by_cases hlt3 : i ≤ n
              · go_wp2_with (first
                  | (go_at_call 19; refine (TZ.out.st.read i).mono ?_; rintro e w10 ⟨v10, rfl, hy10, hn10, _, b10⟩; rw [show (toD r6).ref i = r6.ref i from rfl] at hy10 hn10 ⊢; have T10 := Lib.hid (TZ.out.keep b10); have k10 := conv_read r6 i hy10 hn10; clear hy10 hn10 b10)
                  | (go_at_call 20; refine (rread_any T10.out.is i HS6.out).mono ?_; rintro e w11 ⟨rfl, rfl⟩)
                  | fail)
                go_roundw
                case rel => exact ⟨j + 1, by have := HI.out; omega, by have := HI.out; go_num, T10⟩
                case measure => simp [intOf]; omega
              · have hlt4 : (n : Int) < i := by omega
                clear hlt3
                go_wp2_with fail
                go_roundw
                case rel => exact ⟨k + 1, by omega, by go_num, Lib.hid ⟨_, _, _, _, TZ.out, N6.out, by have := DN.out.2.1; omega, by have := S6.out; have := DN.out.2.2; omega⟩⟩
                case measure => simp [intOf]; omega
    · obtain rfl : k = len1 := by omega
      go_wp2_with (go_at_call 11; refine (goes_any _).mono ?_; rintro e w12 ⟨rfl, hb12⟩; have B12 := Lib.hid (TT.out.st.bel.trans (hb12.mono (Nat.le_trans TT.out.st.base TT.out.st.bel.size))); clear hb12)
      go_ret
      exact ⟨rfl, B12.out⟩
end Go.Proofs.Ytpnnakjffcohoaa
