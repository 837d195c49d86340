import Derived.Test.YtnpebfolmdbipaaGreatDoorZ5
import Derived.Test.YtnpebfolmdbipaaGreatDoorZ2
namespace Go.Proofs.YtnpebfolmdbipaaGreatDoor.Sk
set_option maxRecDepth 8000
set_option linter.unusedVariables false
set_option linter.unusedSimpArgs false
open Go.RowKit Mem Go.ChangeMaps
open Dk (cod elem cod_inj elem_mk elem_inv key key_inj wf_key keyed3 MapIs Fr ptr hmf cell_alloc cell_alloc_new zero42 IsD Dsk Lay drewN_cell Kp ref_zero newD newY RdI)
/-- A shot, in a variable. -/
structure Sh (w : World) (F : Nat → Prop) (g b : Nat) (r : Int) (V : Pages) : Prop where
  cs : w.heap[g]? = some (.cells #[.int .i64 r, .map (some b)] 50 (0, 0))
  m : MapS w b 5000 V
  fg : ¬ F g
  fb : ¬ F b
theorem Sh.lt {w : World} {F : Nat → Prop} {g b : Nat} {r : Int} {V : Pages} (h : Sh w F g b r V) : g < w.heap.size := (Array.getElem?_eq_some_iff.1 h.cs).1
theorem Sh.kf {w w' : World} {F G : Nat → Prop} {g b : Nat} {r : Int} {V : Pages} (h : Sh w F g b r V) (k : Kf F w w' G) : Sh w' G g b r V :=
  ⟨(k.free h.lt h.fg).2.trans h.cs, h.m.of_block (k.free h.m.lt h.fb).2, (k.free h.lt h.fg).1, (k.free h.m.lt h.fb).1⟩
theorem Sh.below {w w' : World} {F : Nat → Prop} {g b : Nat} {r : Int} {V : Pages} (h : Sh w F g b r V) (hb : Below w.heap.size w w') : Sh w' F g b r V :=
  ⟨(hb.block _ h.lt).trans h.cs, h.m.of_block (hb.block _ h.m.lt), h.fg, h.fb⟩
theorem Sh.c0 {w : World} {F : Nat → Prop} {g b : Nat} {r : Int} {V : Pages} (h : Sh w F g b r V) : w.cell? ⟨g, 0, none⟩ = some (.int .i64 r) := by simp [World.cell?, h.cs]
theorem Sh.c1 {w : World} {F : Nat → Prop} {g b : Nat} {r : Int} {V : Pages} (h : Sh w F g b r V) : w.cell? ⟨g, 1, none⟩ = some (.map (some b)) := by simp [World.cell?, h.cs]
theorem Sh.weak {w : World} {F G : Nat → Prop} {g b : Nat} {r : Int} {V : Pages} (h : Sh w F g b r V) (k : ∀ j, G j → F j) : Sh w G g b r V := ⟨h.cs, h.m, fun e => h.fg (k _ e), fun e => h.fb (k _ e)⟩
theorem Sh.made {w : World} {F : Nat → Prop} {b : Nat} {r : Int} {V : Pages} (hm : MapS w b 5000 V) (hF : ∀ k, F k → k < w.heap.size) (hb : ¬ F b) : Sh (w.alloc (.cells #[.int .i64 r, .map (some b)] 50)) F w.heap.size b r V :=
  ⟨heap_alloc_new w _, hm.of_block (Below.heap_alloc _ _ _ hm.lt), fun h => by have := hF _ h; omega, hb⟩
section
variable {B : Nat} {W w w' : World} {sb db : Nat} {y y' : SLay} {s s' : Sto} {yd yd' : Lay} {d d' : Dsk} {m m' : Nat}
theorem Bo.footlt (bo : Bo B W w sb db y yd s d m) (k : Nat) (h : both y yd k) : k < w.heap.size := by
  rcases h with h | h
  · exact bo.is.foot k h
  · exact bo.st.is.foot k h
theorem does_lit (bo : Bo B W w sb db y yd s d m) (a : ActD) (hd : a.dw < 256) (hn : a.n < 65536) (ht : a.tl ≤ 6000) (hm : m + s.us.length < 80000000) :
    Calls Tryz.prog 32 #[pt sb, .agg #[.int .u8 (a.dw : Int), .int .i64 a.p, .string (str a.s), .int .u16 (a.n : Int)]] w fun e w' => e = .returned (.tuple #[]) ∧ ∃ y', Bo B W w' sb db y' yd (doA s d a) d (m + 2 + s.us.length) ∧ Kf (both y yd) w w' (both y' yd) :=
  does_any bo a hd hn ht hm
end
/-- Between two acts. -/
def LI (B : Nat) (W w0 w : World) (F0 : Nat → Prop) (sb db : Nat) (yd : Lay) (d : Dsk) (s0 : Sto) (m0 k : Nat) (y : SLay) (s : Sto) : Prop :=
  Bo B W w sb db y yd s d (m0 + 100 * k) ∧ Quiet s d ∧ s.us.length ≤ k ∧ SameK s0 s ∧ Kf F0 w0 w (both y yd)
theorem dsk_n17 (a : Nat) : ∃ n : Nat, 4 + (a : Int) % 17 = (n : Int) ∧ 4 ≤ n ∧ n ≤ 20 := ⟨4 + a % 17, by omega, by omega, by omega⟩
set_option maxHeartbeats 8000000 in
theorem storeLoses_walk (a0 : Int) (A1 : Option Addr) (len1 cap1 : Nat) (g1 : Nat → Nat → Value) (A2 : Option Addr) (len2 cap2 : Nat) (g2 : Nat → Nat → Value) (A3 : Option Addr) (len3 cap3 : Nat) (l3 : List Int) (hl3 : l3.length = len3) (W : World) (hw : Tab W)
    (wf0 : (Lit.int .u8 a0).wf = true) {fs1 fs2 : Array Field} (hu1 : Tryz.prog.underlying 32 = some (.struct fs1)) (w1 : Structs Tryz.prog W W.heap.size fs1 A1 len1 cap1 g1) (z1 : StrSized Tryz.prog W fs1 A1 len1)
    (hu2 : Tryz.prog.underlying 32 = some (.struct fs2)) (w2 : Structs Tryz.prog W W.heap.size fs2 A2 len2 cap2 g2) (z2 : StrSized Tryz.prog W fs2 A2 len2) (w3 : RdI W W.heap.size A3 cap3 l3) :
    Calls Tryz.prog 5 #[.int .u8 a0, .slice A1 len1 cap1, .slice A2 len2 cap2, .slice A3 len3 cap3] W fun e w' => e = .returned (.bool true) ∧ Below W.heap.size W w' := by
  obtain ⟨f1, ha1⟩ := acts_of hu1 w1 z1
  obtain ⟨f2, ha2⟩ := acts_of hu2 w2 z2
  have hb := bounds_u8 wf0
  obtain ⟨pg, rfl⟩ := Int.eq_ofNat_of_zero_le hb.1
  have hpg : pg < 256 := by omega
  obtain ⟨n, hn, hn4, hn20⟩ := dsk_n17 pg
  have G1 := Lib.hid (fun W' (h : Below W.heap.size W W') => great_one A1 len1 cap1 f1 W' _ (ha1.below h))
  have G2 := Lib.hid (fun W' (h : Below W.heap.size W W') => great_one A2 len2 cap2 f2 W' _ (ha2.below h))
  have HA1 := Lib.hid ha1
  have HA2 := Lib.hid ha2
  have HR3 := Lib.hid w3
  have HT := Lib.hid hw
  have hc1 : (len1 : Int) ≤ 9223372036854775807 := by have := ha1.1; have := ha1.2.1; unfold maxLen at this; omega
  have hc2 : (len2 : Int) ≤ 9223372036854775807 := by have := ha2.1; have := ha2.2.1; unfold maxLen at this; omega
  have hposW := hw.1
  clear w1 w2 z1 z2 w3 wf0 hu1 hu2 ha1 ha2 hw
  clear hb
  by_cases hg1 : 0 < gr len1 f1
  · go_enter Tryz.func5, Tryz.ntmps5
    go_wp2_with (first | (go_at_call 9; refine (G1.out _ (Below.refl _ _)).mono ?_; rintro e w1 ⟨rfl, n1, rfl⟩))
    go_ret
    exact ⟨rfl, below_drewN (Below.refl _ W) n1⟩
  by_cases hg2 : 0 < gr len2 f2
  · go_enter Tryz.func5, Tryz.ntmps5
    go_wp2_with (first
      | (go_at_call 9; refine (G2.out (W.drewN n1) (below_drewN (Below.refl _ W) n1)).mono ?_; rintro e w2 ⟨rfl, n2, rfl⟩)
      | (go_at_call 9; refine (G1.out _ (Below.refl _ _)).mono ?_; rintro e w1 ⟨rfl, n1, rfl⟩))
    go_ret
    exact ⟨rfl, below_drewN (Below.refl _ W) (n1 + n2)⟩
  by_cases h60 : 60 < len3
  · have h60' : (60 : Int) < (len3 : Int) := by omega
    go_enter Tryz.func5, Tryz.ntmps5
    go_wp2_with (first
      | (go_at_call 9; refine (G2.out (W.drewN n1) (below_drewN (Below.refl _ W) n1)).mono ?_; rintro e w2 ⟨rfl, n2, rfl⟩)
      | (go_at_call 9; refine (G1.out _ (Below.refl _ _)).mono ?_; rintro e w1 ⟨rfl, n1, rfl⟩))
    go_ret
    exact ⟨rfl, below_drewN (Below.refl _ W) (n1 + n2)⟩
  have h60' : ¬ (60 : Int) < (len3 : Int) := by omega
  obtain ⟨hl1, ht1⟩ := gr_ok hg1
  obtain ⟨hl2, ht2⟩ := gr_ok hg2
  have T1 := Lib.hid ht1
  have T2 := Lib.hid ht2
  clear ht1 ht2
  have hptr : ∀ (k : Nat), (ptr k : Value) = .pointer (some ⟨k, 0, none⟩) := fun k => rfl
  go_enter Tryz.func5, Tryz.ntmps5
  go_wp2_with (first
    | (go_at_call 10; refine (made_any n _ (HT.out.below (B := W.heap.size) (below_drewN (Below.refl _ W) (n1 + n2)) hposW) hn4 (by omega)).mono ?_; rintro e w3 ⟨sb, db, y0, yd, rfl, bo0⟩; have B0 := Lib.hid bo0; clear bo0)
    | (go_at_call 9; refine (G2.out (W.drewN n1) (below_drewN (Below.refl _ W) n1)).mono ?_; rintro e w2 ⟨rfl, n2, rfl⟩)
    | (go_at_call 9; refine (G1.out _ (Below.refl _ _)).mono ?_; rintro e w1 ⟨rfl, n1, rfl⟩))
  obtain ⟨V, hV⟩ : ∃ V, V = W.drewN (n1 + n2) := ⟨_, rfl⟩
  have hVs : V.heap.size = W.heap.size := by rw [hV, show (W.drewN (n1 + n2)).heap = W.heap from (World.drewN_alike W (n1 + n2)).1]
  have hVb : Below W.heap.size W V := by rw [hV]; exact below_drewN (Below.refl _ W) (n1 + n2)
  have B1 := Lib.hid (show Bo W.heap.size V w3 sb db y0 yd (sto0 n) (newD n) 0 from by have := B0.out; rw [← hV, hVs] at this; exact this)
  have HVB := Lib.hid hVb
  clear B0 hV hVb hVs
  have Q0 := Lib.hid (quiet_new n hn4 (by omega))
  clear hg1 hg2 h60' h60 hn hpg
  go_loopw [12] (fun i wr => ∃ (k : Nat) (y : SLay) (s : Sto), k ≤ len1 ∧ i = .int .i64 k ∧ Hid (LI W.heap.size V w3 wr (both y0 yd) sb db yd (newD n) (sto0 n) 0 k y s)) (fun i _ => len1 - (intOf i).toNat)
  case atStart => exact ⟨0, y0, sto0 n, Nat.zero_le _, rfl, Lib.hid ⟨B1.out, Q0.out, Nat.le_refl _, SameK.refl _, Kf.refl _ _⟩⟩
  case round =>
    obtain ⟨k, y, s, hk, rfl, HL⟩ := hrel
    have hbw : Below W.heap.size W wr := HVB.out.trans HL.out.1.st.bel
    have HBW := Lib.hid hbw
    clear hbw
    by_cases hlt : k < len1
    · obtain ⟨b, o, rfl, hblt, hc⟩ := (HA1.out.below HBW.out).2.2 (by omega)
      have q0 := (hc k hlt).c0
      have q1 := (hc k hlt).c1
      have q2 := (hc k hlt).c2
      have q3 := (hc k hlt).c3
      have hlt' : (k : Int) < (len1 : Int) := by omega
      have DL := Lib.hid (does_lit HL.out.1 (f1 k) (hc k hlt).d (hc k hlt).nn (T1.out k hlt) (by have := HL.out.2.2.1; omega))
      clear hc
      go_wp2_with (first
        | (go_at_call 32; refine DL.out.mono ?_; rintro e w4 ⟨rfl, y4, b4, k4⟩; have B4 := Lib.hid b4; have K4 := Lib.hid k4; clear b4 k4))
      go_roundw
      case rel =>
        refine ⟨k + 1, y4, doA s (newD n) (f1 k), by omega, by go_num, Lib.hid ⟨B4.out.mono ?_, HL.out.2.1.act (doA_same _ _ _) B4.out.good, ?_, HL.out.2.2.2.1.trans (doA_same _ _ _), HL.out.2.2.2.2.trans K4.out⟩⟩
        · have := HL.out.2.2.1; omega
        · have := HL.out.2.2.1; have := doA_us s (newD n) (f1 k); omega
      case measure => simp [intOf]; omega
    · obtain rfl : k = len1 := by omega
      have hQ1 := HL.out.2.1
      have hst : s.stamp = 0 := HL.out.2.2.2.1.stamp
      obtain ⟨e0, q2, ecur, ekept, eus, est, en, erd⟩ := hQ1.commit (by omega)
      have CM := Lib.hid (Commit_any HL.out.1 (by omega))
      have E0 := Lib.hid e0
      have Q2 := Lib.hid q2
      have EK := Lib.hid (And.intro ecur (And.intro ekept eus))
      obtain ⟨s2, hs2⟩ : ∃ s2, s2 = stoC s (newD n) := ⟨_, rfl⟩
      obtain ⟨d2, hd2⟩ : ∃ d2, d2 = diskC s (newD n) := ⟨_, rfl⟩
      rw [← hs2, ← hd2] at CM Q2
      rw [← hs2] at EK
      have hd2n : d2.n = n := by
        have h1 := Q2.out.nn
        have h2 : s2.n = s.n := by rw [hs2]; exact en
        have h3 : s.n = n := HL.out.2.2.2.1.n
        omega
      have hs2s : s2.stamp ≤ 1 := by rw [hs2]; omega
      rw [E0.out] at CM
      have SS := Lib.hid hs2s
      have DN := Lib.hid hd2n
      have GS := Lib.hid Q2.out.gone
      have hlt' : ¬ (k : Int) < (k : Int) := by omega
      clear hQ1 hst e0 q2 ecur ekept eus est en erd hs2 hd2 hd2n hs2s
      go_wp2_with (first
        | (go_at_call 31; refine (shot_any B3.out GS.out n (by omega) (fun p _ hp => Q2.out.reads p hp) (rdOf_len Q2.out.good)).mono ?_; rintro e w5 ⟨b5, rfl, m5, h5, bl5⟩; have M5 := Lib.hid m5; have H5 := Lib.hid h5; have BL5 := Lib.hid bl5; clear m5 h5 bl5)
        | (go_at_call 23; refine CM.out.mono ?_; rintro e w4 ⟨rfl, y3, yd3, b3, k3⟩; have B3 := Lib.hid b3; have K3 := Lib.hid k3; clear b3 k3))
      have hF5 : ∀ j, both y3 yd3 j → j < w4.heap.size := B3.out.footlt
      have hs5 := BL5.out.size
      have S5 := Lib.hid (Sh.made (F := both y3 yd3) (r := (s2.cur.now.root : Int)) M5.out (fun j h => by have := hF5 j h; omega) (fun h => by have := hF5 _ h; have := H5.out; omega))
      have B5 := Lib.hid (B3.out.keep (w' := w5.alloc (.cells #[.int .i64 (s2.cur.now.root : Int), .map (some b5)] 50)) (BL5.out.alloc hs5 _))
      obtain ⟨g5, hg5⟩ : ∃ g5, g5 = w5.heap.size := ⟨_, rfl⟩
      rw [← hg5] at S5 ⊢
      obtain ⟨X5, hX5⟩ : ∃ X5, X5 = w5.alloc (.cells #[.int .i64 (s2.cur.now.root : Int), .map (some b5)] 50) := ⟨_, rfl⟩
      rw [← hX5] at S5 B5 ⊢
      clear hF5 hs5 hg5 hX5 M5 H5 BL5 B3 K3 CM
      go_loopw [15] (fun i wr => ∃ (j : Nat) (y : SLay) (s : Sto), j ≤ len2 ∧ i = .int .i64 j ∧ Hid (LI W.heap.size V X5 wr (both y3 yd3) sb db yd3 d2 s2 (0 + 100 * k + 10000) j y s)) (fun i _ => len2 - (intOf i).toNat)
      case atStart => exact ⟨0, y3, s2, Nat.zero_le _, rfl, Lib.hid ⟨B5.out, Q2.out, by rw [EK.out.2.2]; exact Nat.le_refl _, SameK.refl _, Kf.refl _ _⟩⟩
      case round =>
        obtain ⟨j, y', s', hj, rfl, HL2⟩ := hrel
        have hbw : Below W.heap.size W wr := HVB.out.trans HL2.out.1.st.bel
        have HBW2 := Lib.hid hbw
        clear hbw
        by_cases hlt : j < len2
        · obtain ⟨b, o, rfl, hblt, hc⟩ := (HA2.out.below HBW2.out).2.2 (by omega)
          have q0 := (hc j hlt).c0
          have q1 := (hc j hlt).c1
          have q2 := (hc j hlt).c2
          have q3 := (hc j hlt).c3
          have hlt2 : (j : Int) < (len2 : Int) := by omega
          have DL := Lib.hid (does_lit HL2.out.1 (f2 j) (hc j hlt).d (hc j hlt).nn (T2.out j hlt) (by have := HL2.out.2.2.1; omega))
          clear hc
          go_wp2_with (first
            | (go_at_call 32; refine DL.out.mono ?_; rintro e w4 ⟨rfl, y4, b4, k4⟩; have B4 := Lib.hid b4; have K4 := Lib.hid k4; clear b4 k4))
          go_roundw
          case rel =>
            refine ⟨j + 1, y4, doA s' d2 (f2 j), by omega, by go_num, Lib.hid ⟨B4.out.mono ?_, HL2.out.2.1.act (doA_same _ _ _) B4.out.good, ?_, HL2.out.2.2.2.1.trans (doA_same _ _ _), HL2.out.2.2.2.2.trans K4.out⟩⟩
            · have := HL2.out.2.2.1; omega
            · have := HL2.out.2.2.1; have := doA_us s' d2 (f2 j); omega
          case measure => simp [intOf] <;> omega
        · obtain rfl : j = len2 := by omega
          have hlt2 : ¬ (j : Int) < (j : Int) := by omega
          have hstill := restart_still HL2.out.1.st.good HL2.out.2.1.wait l3
          obtain ⟨q4, ek4, ec4, es4, eu4⟩ := HL2.out.2.1.reopen (d' := d2.restart l3) hstill (restart_liv _ _) (restart_wait _ _) (restart_n _ _)
          have hS6 := S5.out.kf HL2.out.2.2.2.2
          have hek : s'.kept = s2.kept := HL2.out.2.2.2.1.kept
          have RS := Lib.hid (HL2.out.1.st.restart (by omega) A3 cap3 len3 l3 ((HR3.out.below HBW2.out).more HBW2.out.size) hl3 (fun hp a ha hf => by
            have h1 := HL2.out.1.st.low _ hf
            obtain ⟨b, o, e, hlt3, _⟩ := HR3.out.2.2.2 hp
            rw [ha] at e
            injection e with e
            subst e
            simp only at h1
            omega))
          have hn3 : (d2.restart l3).n = n := (restart_n d2 l3).trans DN.out
          have hst3 : (lkTo (d2.restart l3) (d2.restart l3).n 2).stamp ≠ 18446744073709551615 := by
            have h1 : (opened (d2.restart l3)).stamp = _ := es4
            have h2 : (lkTo (d2.restart l3) (d2.restart l3).n 2).stamp = (opened (d2.restart l3)).stamp := rfl
            have h3 : s'.stamp = s2.stamp := HL2.out.2.2.2.1.stamp
            have := SS.out
            omega
          obtain ⟨d3, hd3⟩ : ∃ d3, d3 = d2.restart l3 := ⟨_, rfl⟩
          rw [← hd3] at q4 ek4 ec4 es4 eu4 RS hn3 hst3 hstill
          have hdd : d3.dead = false := by rw [hd3]; rfl
          have OP := Lib.hid (fun (w1 : World) (yd' : Lay) (st : Dk.St W.heap.size V w1 db yd' d3 (0 + 100 * k + 10000 + 100 * j)) => open_any st HL2.out.1.tabW HL2.out.1.posB hdd (by omega) (by omega) hst3)
          have hG4 : gone (opened d3) d3 = false := q4.gone
          have hVV : shotV (opened d3) d3 n = shotV s2 d2 n := by
            rw [shotV_base ec4, shotV_base (t := s2.kept) (by rw [EK.out.1, EK.out.2.1]), hek]
            funext p
            rw [hstill p]
          have hrr : ((opened d3).cur.now.root : Int) = (s2.cur.now.root : Int) := by
            rw [ec4, EK.out.1, hek, EK.out.2.1]
          have Q4 := Lib.hid q4
          have G4 := Lib.hid hG4
          have VV := Lib.hid hVV
          have RR := Lib.hid hrr
          have S6 := Lib.hid hS6
          have HW4 := Lib.hid (show Below W.heap.size W V from HVB.out)
          clear hstill q4 ek4 ec4 es4 eu4 hS6 hek hn3 hst3 hd3 hdd hG4 hVV hrr
          go_wp2_with (first
            | (go_at_call 30; refine (goes_any _ ((BB9.out.keep BL10.out).tab)).mono ?_; rintro e w11 ⟨rfl, bl11⟩; have BL11 := Lib.hid bl11; clear bl11)
            | (go_at_call 36; refine (equal_any _ _ _ b9 b5 5000 5000 _ _ MM9.out S9.out.m).mono ?_; rintro e w10 ⟨r10, rfl, hr10, bl10⟩; obtain rfl := hr10 RR.out VV.out; have BL10 := Lib.hid bl10; clear hr10 bl10)
            | (go_at_call 31; refine (shot_any B8.out G4.out n (by omega) (fun p _ hp => Q4.out.reads p hp) (rdOf_len Q4.out.good)).mono ?_; rintro e w9 ⟨b9, rfl, m9, h9, bl9⟩; have M9 := Lib.hid m9; have H9 := Lib.hid h9; have BL9 := Lib.hid bl9; have s9 := ((((S6.out.weak (G := yd3.foot) (fun _ h => .inr h)).kf (Kf.ofKp RS7.out.2)).kf K8.out).below bl9).below (w' := w9.alloc (.cells #[.int .i64 ((opened d3).cur.now.root : Int), .map (some b9)] 50)) ((Below.refl _ w9).alloc (Nat.le_refl _) _); have S9 := Lib.hid s9; have p0 := s9.c0; have p1 := s9.c1; have BB9 := Lib.hid (B8.out.keep (w' := w9.alloc (.cells #[.int .i64 ((opened d3).cur.now.root : Int), .map (some b9)] 50)) (bl9.alloc bl9.size _)); have MM9 := Lib.hid (m9.of_block (w' := w9.alloc (.cells #[.int .i64 ((opened d3).cur.now.root : Int), .map (some b9)] 50)) (Below.heap_alloc _ _ _ m9.lt)); clear m9 h9 bl9 s9)
            | (go_at_call 27; refine (OP.out _ _ RS7.out.1).mono ?_; rintro e w8 ⟨sb8, y8, rfl, b8, k8⟩; have B8 := Lib.hid b8; have K8 := Lib.hid k8; clear b8 k8)
            | (go_at_call 35; refine RS.out.mono ?_; rintro e w7 ⟨rfl, yd7, st7, k7⟩; have RS7 := Lib.hid (And.intro st7 k7); clear st7 k7))
          go_ret
          exact ⟨rfl, HVB.out.trans (((BB9.out.keep BL10.out).keep BL11.out).st.bel)⟩
end Go.Proofs.YtnpebfolmdbipaaGreatDoor.Sk

