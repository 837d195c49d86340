import Derived.Test.YtonmgcfnhbfpgaaDoorL3
import Derived.Test.YtonmgcfnhbfpgaaDoorL2
import Derived.RegionTactic
import Derived.ChangeAlike
import Derived.Deep.RegionWith
import Derived.Deep.QuietTactic
import Derived.BigQuiet
import Derived.WalkSmall
import Derived.Deep.DeepCutAuto
namespace Go.Proofs.YtonmgcfnhbfpgaaDoor
open Go.RowKit Mem

theorem byteTy : ByteTy Tryd.prog 23 5 := by
  refine ⟨Tryd.underlying23, Tryd.underlying5, ?_⟩
  have h : (Tryd.prog.info? 5).map (fun i => (i.zero, i.size, i.bytes)) = some (some (.int .u8 0), 1, 1) := by kernel_rfl
  obtain ⟨i, h1, h2, h3, h4⟩ := info_parts h
  exact ⟨i, h1, h2, h3, h4⟩
theorem own_empty (w : World) : Own 5 (w.alloc (.cells #[] 5)) w.heap.size (.slice (some ⟨w.heap.size, 0, none⟩) 0 0) [] := Own.lit 5 w [] w.heap.size (Nat.le_refl _) (by simp [maxLen])

theorem app_below {w w' : World} (h : (w.alloc (.cells #[] 5)).grownBy w' (Value.slice (some ⟨w.heap.size, 0, none⟩) 0 0).ownBlock) : Below w.heap.size w w' :=
  ((Below.refl _ w).alloc (Nat.le_refl _) (.cells #[] 5)).grown h (by simp) (fun k hk => by simp [Value.ownBlock] at hk; omega)

theorem own_lt {w : World} {base g n c : Nat} {l : List UInt8} (h : Own 5 w base (.slice (some ⟨g, 0, none⟩) n c) l) : base ≤ g ∧ g < w.heap.size := World.ownsRow.lt h g rfl
theorem own_open {w : World} {base : Nat} {v : Value} {l : List UInt8} (h : Own 5 w base v ([] ++ l)) (h0 : 0 < l.length) :
    ∃ g c, v = .slice (some ⟨g, 0, none⟩) l.length c ∧ base ≤ g ∧ (∀ i (h : i < l.length), w.cell? ⟨g, i, none⟩ = some (.int .u8 (l[i].toNat : Int))) ∧ ∀ i, w.frozen? ⟨g, i, none⟩ = false := by
  rw [List.nil_append] at h
  rcases h.2 with ⟨_, hz⟩ | ⟨g, cap, cur, rfl, hb, _⟩
  · omega
  · refine ⟨g, cap, rfl, hb, fun i hi => ?_, fun i => World.ownsRow.frozenAt h i⟩
    rw [World.ownsRow.cellAt h i (by omega)]
    simp [hi, bv]

/-- l, but for bit r of byte i. -/
def flip (l : List UInt8) (i r : Nat) : List UInt8 := l.set i ((l.getD i 0) ^^^ UInt8.ofNat (2 ^ r))
theorem flip_length (l : List UInt8) (i r : Nat) : (flip l i r).length = l.length := by simp [flip]
theorem flip_val (x : UInt8) (r : Nat) (hr : r < 8) : bits .xor .u8 (x.toNat : Int) (IntKind.u8.wrap (2 ^ r)) = ((x ^^^ UInt8.ofNat (2 ^ r)).toNat : Int) := by
  have hp : 2 ^ r < 256 := Nat.pow_lt_pow_right (by omega) hr
  have e : IntKind.u8.wrap (2 ^ r) = ((2 ^ r : Nat) : Int) := by
    have e0 : ((2 : Int) ^ r) = ((2 ^ r : Nat) : Int) := (Int.natCast_pow 2 r).symm
    rw [IntKind.wrap_u8', e0]
    clear e0
    generalize (2 ^ r : Nat) = p at hp ⊢
    omega
  rw [e, u8_xor_nat _ _ x.toNat_lt hp, UInt8.toNat_xor, UInt8.toNat_ofNat', Nat.mod_eq_of_lt hp]
theorem num_flip (l : List UInt8) (i r : Nat) (hi : i < l.length) (hr : r < 8) : Crc.num (flip l i r) = Crc.num l ^^^ 2 ^ (8 * i + r) := by
  induction l generalizing i with
  | nil => simp at hi
  | cons x l ih =>
    have hp : 2 ^ r < 256 := Nat.pow_lt_pow_right (by omega) hr
    cases i with
    | zero =>
      have e : flip (x :: l) 0 r = (x ^^^ UInt8.ofNat (2 ^ r)) :: l := rfl
      rw [e, Crc.num_cons, Crc.num_cons, UInt8.toNat_xor, UInt8.toNat_ofNat', Nat.mod_eq_of_lt hp, Nat.mul_zero, Nat.zero_add, Nat.xor_assoc, Nat.xor_assoc, Nat.xor_comm (2 ^ r)]
    | succ i =>
      have h := ih i (by simpa using hi)
      have e : flip (x :: l) (i + 1) r = x :: flip l i r := by simp [flip]
      rw [e, Crc.num_cons, Crc.num_cons, h, Nat.xor_assoc]
      congr 1
      rw [show 8 * (i + 1) + r = 8 + (8 * i + r) by omega, Nat.pow_add 2 8]
      simp only [← Crc.shl_eq, Nat.shiftLeft_xor_distrib]
theorem own_store {w : World} {base g c i n : Nat} {l : List UInt8} {u : Int} {r : Nat} (h : Own 5 w base (.slice (some ⟨g, 0, none⟩) n c) ([] ++ l)) (hi : i < l.length) (hu : u = ((l[i] ^^^ UInt8.ofNat (2 ^ r)).toNat : Int)) :
    Own 5 (w.setCell ⟨g, i, none⟩ (.int .u8 u)) base (.slice (some ⟨g, 0, none⟩) n c) (flip l i r) ∧ w.grownBy (w.setCell ⟨g, i, none⟩ (.int .u8 u)) (some g) := by
  rw [List.nil_append] at h
  have hn : n = l.length := by
    rcases h.2 with ⟨h1, _⟩ | ⟨_, _, _, h1, _⟩
    · simp at h1
    · simp at h1; exact h1.2.1
  subst hn
  have h2 := World.ownsRow.stored h i (.int .u8 u)
  have e : (l.map bv).set i (.int .u8 u) = (flip l i r).map bv := by
    unfold flip
    rw [List.map_set, hu]
    congr 1
    simp [bv, hi, List.getD]
  rw [e] at h2
  refine ⟨?_, h2.2⟩
  unfold Own
  rw [flip_length]
  exact h2.1

theorem own_rd {w : World} {base g c n : Nat} {l : List UInt8} (h : Own 5 w base (.slice (some ⟨g, 0, none⟩) n c) l) (_hn : l.length = n) : Rd w w.heap.size (some ⟨g, 0, none⟩) c l := by
  obtain ⟨A, c', e, hr, _⟩ := h.form
  simp at e
  obtain ⟨rfl, _, rfl⟩ := e
  exact hr
theorem flip_ne (l : List UInt8) (i r : Nat) (hi : i < l.length) (hr : r < 8) : Crc.check (flip l i r) ≠ Crc.check l := by
  refine Crc.check_ne _ _ (8 * i + r) 1 (flip_length l i r) ?_ (by rw [flip_length]; omega) (by decide) (by decide)
  rw [num_flip l i r hi hr, Nat.xor_comm, ← Nat.xor_assoc, Nat.xor_self, Nat.zero_xor, Nat.mul_one]
theorem two_ne (l : List UInt8) (i r j s d : Nat) (hi : i < l.length) (hr : r < 8) (hj : j < l.length) (hs : s < 8) (h : 8 * j + s = 8 * i + r + d) (h0 : 0 < d) (hd : d ≤ 31) : Crc.check (flip l i r) ≠ Crc.check (flip l j s) := by
  have hp : 2 ^ d < 4294967296 := Nat.lt_of_lt_of_le (Nat.pow_lt_pow_right (by omega) (show d < 32 by omega)) (by decide)
  have hp1 : 2 ≤ 2 ^ d := Nat.le_trans (by decide) (Nat.pow_le_pow_right (n := 2) (by omega) h0)
  refine Crc.check_ne _ _ (8 * i + r) (1 ^^^ 2 ^ d) (by rw [flip_length, flip_length]) ?_ (by rw [flip_length]; omega) (Nat.xor_lt_two_pow (n := 32) (by decide) hp) (Crc.xor_ne _ _ (by omega))
  rw [num_flip l i r hi hr, num_flip l j s hj hs, Crc.xor_swap, Nat.xor_self, Nat.zero_xor, h, Nat.pow_add 2 (8 * i + r) d]
  have e : ∀ k a, 2 ^ k ^^^ 2 ^ k * a = 2 ^ k * (1 ^^^ a) := by
    intro k a
    have e1 : 2 ^ k = 1 <<< k := by rw [Nat.shiftLeft_eq, Nat.one_mul]
    rw [← Crc.shl_eq, ← Crc.shl_eq, Nat.shiftLeft_xor_distrib, ← e1]
  exact e _ _
theorem flip_two (l : List UInt8) (i r j s : Nat) (hi : i < l.length) (hr : r < 8) (hj : j < l.length) (hs : s < 8) (h1 : 8 * i + r ≤ 8 * j + s + 31) (h2 : 8 * j + s ≤ 8 * i + r + 31) : Crc.check (flip l i r) = Crc.check (flip l j s) ↔ 8 * i + r = 8 * j + s := by
  constructor
  · intro h
    rcases Nat.lt_trichotomy (8 * i + r) (8 * j + s) with hlt | heq | hgt
    · exact absurd h (two_ne l i r j s (8 * j + s - (8 * i + r)) hi hr hj hs (by omega) (by omega) (by omega))
    · exact heq
    · exact absurd h.symm (two_ne l j s i r (8 * i + r - (8 * j + s)) hj hs hi hr (by omega) (by omega) (by omega))
  · intro h
    obtain rfl : i = j := by omega
    obtain rfl : r = s := by omega
    rfl

set_option maxRecDepth 100000 in
set_option maxHeartbeats 2000000 in
theorem crcOne_mid (b o c : Nat) (l : List UInt8) (i j : Int) (m n : Nat) (w : World) (hw : Tab w) (hl : Rd w w.heap.size (some ⟨b, o, none⟩) c l) (h0 : 0 < l.length) (h42 : l.length ≤ 4000) (hi0 : 0 ≤ i) (hi1 : i ≤ 65535) (hj0 : 0 ≤ j) (hj1 : j ≤ 65535)
    (hm : i % (8 * (l.length : Int)) = (m : Int)) (hn : j % (8 * (l.length : Int)) = (n : Int)) :
    Calls Tryd.prog 6 #[.slice (some ⟨b, o, none⟩) l.length c, .int .u16 i, .int .u16 j] w fun e w' => e = .returned (.bool true) ∧ Below w.heap.size w w' := by
  have hbm := Int.emod_lt_of_pos i (show (0 : Int) < 8 * (l.length : Int) by omega)
  have hbn := Int.emod_lt_of_pos j (show (0 : Int) < 8 * (l.length : Int) by omega)
  rw [hm] at hbm
  rw [hn] at hbn
  have h140 : l.length ≤ 140737488355328 := by omega
  have hlen0 : ((l.length : Int) == 0) = false := beq_eq_false_iff_ne.2 (by omega)
  have HW := Lib.hid hw
  have HL := Lib.hid hl
  have HE1 := Lib.hid (own_empty w)
  clear hw hl
  go_enter Tryd.func6, Tryd.ntmps6
  go_wp2_with (first
    | (at_builtin; have _t := HE1.out; refine wpList_append_rd byteTy rfl _ _ rfl w.heap.size _ [] rfl HE1.out w.heap.size _ _ _ l rfl rfl (HL.out.alloc (Nat.le_refl _) _) (by simpa using h140) (by simp) ?_; intro v2 w2 hown2 hg2 hat2; have HO2 := Lib.hid hown2; have HB2 := Lib.hid (app_below hg2); clear hown2 hg2 hat2 HE1)
    | (at_builtin; refine wpList_append_rd byteTy rfl _ _ rfl w2.heap.size _ [] rfl (own_empty w2) w.heap.size _ _ _ l rfl rfl ((HL.out.below HB2.out).alloc HB2.out.size _) (by simpa using h140) (by simp) ?_; intro v3 w3 hown3 hg3 hat3; have HO3 := Lib.hid hown3; have HB3 := Lib.hid (app_below hg3); clear hown3 hg3 hat3))
  have hw8 : IntKind.i64.wrap (8 * (l.length : Int)) = 8 * (l.length : Int) := IntWalk.i64_in _ (by omega)
  have h80 : (8 * (l.length : Int) == 0) = false := beq_eq_false_iff_ne.2 (by omega)
  have hmt : i.tmod (8 * (l.length : Int)) = (m : Int) := by rw [Int.tmod_eq_emod_of_nonneg hi0]; exact hm
  have hnt : j.tmod (8 * (l.length : Int)) = (n : Int) := by rw [Int.tmod_eq_emod_of_nonneg hj0]; exact hn
  have h8p : 0 < 8 * (l.length : Int) := by omega
  go_quiet (fail)
  go_upto_region 5 with fail
  have HO2' := Lib.hid (HO2.out.below (below_drewN HB3.out nq) (Nat.le_refl _))
  have HO3' := Lib.hid (HO3.out.below (below_drewN (Below.refl w3.heap.size w3) nq) (Nat.le_refl _))
  have HBW := Lib.hid (below_drewN (HB2.out.trans (HB3.out.mono HB2.out.size)) nq)
  have HSZ := Lib.hid HB2.out.size
  clear hw8 h80 hmt hnt h8p hm hn hlen0 h140
  generalize w3.drewN nq = W at HO2' HO3' HBW ⊢
  go_cut [52] (fun v wz => v = .bool (decide (¬ (m ≤ n + 31 ∧ n ≤ m + 31))) ∧ W = wz)
  case first =>
    go_wp2_with fail
    all_goals
      go_meet
      case rel => exact ⟨congrArg Value.bool (by first | (rw [← Bool.decide_or]; exact decide_eq_decide.2 (by omega)) | (rw [eq_comm, decide_eq_true_iff]; omega) | (exact decide_eq_decide.2 (by omega))), rfl⟩
  case rest =>
    obtain ⟨rfl, rfl⟩ := hcut
    go_upto_if 52 with fail
    go_cut [10] (fun v wz => (∃ q : Nat, v = .int .i64 q ∧ q < 8 * l.length ∧ m ≤ q + 31 ∧ q ≤ m + 31) ∧ W = wz)
    case first =>
      by_cases hfar : m ≤ n + 31 ∧ n ≤ m + 31
      · have hd : decide (¬ (m ≤ n + 31 ∧ n ≤ m + 31)) = false := by simp; omega
        obtain ⟨hf1, hf2⟩ := hfar
        rw [hd]
        go_wp2_with fail
        go_meet
        case rel => exact ⟨⟨n, rfl, by omega, hf1, hf2⟩, rfl⟩
      · have hd : decide (¬ (m ≤ n + 31 ∧ n ≤ m + 31)) = true := by simp; omega
        rw [hd]
        go_wp2_with fail
        go_meet
        case rel => exact ⟨⟨m, rfl, by omega, by omega, by omega⟩, rfl⟩
    case rest =>
      obtain ⟨⟨q, rfl, hq, hq1, hq2⟩, rfl⟩ := hcut
      obtain ⟨g1, c1, rfl, hg1, hc1, hf1⟩ := own_open HO2'.out h0
      obtain ⟨g2, c2, rfl, hg2, hc2, hf2⟩ := own_open HO3'.out h0
      have hgs : g1 < w2.heap.size := (own_lt HO2.out).2
      have hgne : g1 ≠ g2 := by omega
      clear HO2 HO3 _t hgs hg2
      obtain ⟨mi, mr, hmi, hmr, hm8⟩ : ∃ mi mr : Nat, mi < l.length ∧ mr < 8 ∧ m = 8 * mi + mr := ⟨m / 8, m % 8, by omega, by omega, by omega⟩
      obtain ⟨qi, qr, hqi, hqr, hq8⟩ : ∃ qi qr : Nat, qi < l.length ∧ qr < 8 ∧ q = 8 * qi + qr := ⟨q / 8, q % 8, by omega, by omega, by omega⟩
      have d1 : (m : Int) / 8 = (mi : Int) := by omega
      have d2 : (m : Int) % 8 = (mr : Int) := by omega
      have d3 : (q : Int) / 8 = (qi : Int) := by omega
      have d4 : (q : Int) % 8 = (qr : Int) := by omega
      have t1 : (m : Int).tdiv 8 = (mi : Int) := by rw [Int.tdiv_eq_ediv_of_nonneg (by omega)]; exact d1
      have t2 : (m : Int).tmod 8 = (mr : Int) := by rw [Int.tmod_eq_emod_of_nonneg (by omega)]; exact d2
      have t3 : (q : Int).tdiv 8 = (qi : Int) := by rw [Int.tdiv_eq_ediv_of_nonneg (by omega)]; exact d3
      have t4 : (q : Int).tmod 8 = (qr : Int) := by rw [Int.tmod_eq_emod_of_nonneg (by omega)]; exact d4
      have hM8 := Lib.hid hm8
      have hQ8 := Lib.hid hq8
      have hcm := hc1 mi hmi
      have hfm := hf1 mi
      have hmI : (mi : Int) < (l.length : Int) := by omega
      have hqI : (qi : Int) < (l.length : Int) := by omega
      have z1 : IntKind.i64.wrap (mi : Int) = (mi : Int) := IntWalk.i64_in _ (by omega)
      have z2 : IntKind.i64.wrap (mr : Int) = (mr : Int) := IntWalk.i64_in _ (by omega)
      have z3 : IntKind.i64.wrap (qi : Int) = (qi : Int) := IntWalk.i64_in _ (by omega)
      have z4 : IntKind.i64.wrap (qr : Int) = (qr : Int) := IntWalk.i64_in _ (by omega)
      clear hm8 hq8 hc1 hc2 hf1 hf2
      go_wp2_with fail
      go_region_with (fail)
      go_wp2_with fail
      have HT1 := Lib.hid (own_store HO2'.out hmi (flip_val l[mi] mr hmr))
      have HU1 := Lib.hid (HO3'.out.kept (HT1.out.2) (.inr (by simp [Value.ownBlock]; omega)))
      have HB5 := Lib.hid (own_trans (v := .slice (some ⟨g1, 0, none⟩) l.length c1) HBW.out HT1.out.2 (fun k hk => by simp [Value.ownBlock] at hk; omega)).drew
      have HR5 := Lib.hid ((HL.out.below HB5.out).more HB5.out.size)
      have hcq : (W.setCell ⟨g1, mi, none⟩ (.int .u8 (bits .xor .u8 (l[mi].toNat : Int) (IntKind.u8.wrap (2 ^ mr))))).drew.cell? ⟨g2, qi, none⟩ = some (.int .u8 (l[qi].toNat : Int)) := (own_open HU1.out h0).elim fun g h => by
        obtain ⟨c', e, _, hc, _⟩ := h
        simp at e
        obtain ⟨rfl, rfl⟩ := e
        exact hc qi hqi
      have hfq : (W.setCell ⟨g1, mi, none⟩ (.int .u8 (bits .xor .u8 (l[mi].toNat : Int) (IntKind.u8.wrap (2 ^ mr))))).drew.frozen? ⟨g2, qi, none⟩ = false := World.ownsRow.frozenAt HU1.out qi
      have HT1d : Hid (Own 5 (W.setCell ⟨g1, mi, none⟩ (.int .u8 (bits .xor .u8 (l[mi].toNat : Int) (IntKind.u8.wrap (2 ^ mr))))).drew w.heap.size (.slice (some ⟨g1, 0, none⟩) l.length c1) (flip l mi mr)) := Lib.hid (World.ownsRow.drew HT1.out.1)
      have HU1d : Hid (Own 5 (W.setCell ⟨g1, mi, none⟩ (.int .u8 (bits .xor .u8 (l[mi].toNat : Int) (IntKind.u8.wrap (2 ^ mr))))).drew w2.heap.size (.slice (some ⟨g2, 0, none⟩) l.length c2) ([] ++ l)) := Lib.hid (World.ownsRow.drew HU1.out)
      clear HT1 HU1 HO2' HO3' HBW hcm hfm d1 d2 t1 t2 z1 z2
      generalize (W.setCell ⟨g1, mi, none⟩ (.int .u8 (bits .xor .u8 (l[mi].toNat : Int) (IntKind.u8.wrap (2 ^ mr))))).drew = W5 at HB5 HR5 hcq hfq HT1d HU1d ⊢
      go_region_with (fail)
      go_upto_region 9 with fail
      have HT2 := Lib.hid (own_store HU1d.out hqi (flip_val l[qi] qr hqr))
      have HU2 := Lib.hid (World.ownsRow.kept HT1d.out (HT2.out.2) (.inr (by simp [Value.ownBlock]; omega)))
      have HB6 := Lib.hid (own_trans (v := .slice (some ⟨g2, 0, none⟩) l.length c2) HB5.out HT2.out.2 (fun k hk => by have := HSZ.out; have := (own_lt HU1d.out).1; simp [Value.ownBlock] at hk; omega)).drew
      have HR6 := Lib.hid ((HL.out.below HB6.out).more HB6.out.size)
      have HX6 : Hid (Own 5 (W5.setCell ⟨g2, qi, none⟩ (.int .u8 (bits .xor .u8 (l[qi].toNat : Int) (IntKind.u8.wrap (2 ^ qr))))).drew w.heap.size (.slice (some ⟨g1, 0, none⟩) l.length c1) (flip l mi mr)) := Lib.hid (World.ownsRow.drew HU2.out)
      have HY6 : Hid (Own 5 (W5.setCell ⟨g2, qi, none⟩ (.int .u8 (bits .xor .u8 (l[qi].toNat : Int) (IntKind.u8.wrap (2 ^ qr))))).drew w2.heap.size (.slice (some ⟨g2, 0, none⟩) l.length c2) (flip l qi qr)) := Lib.hid (World.ownsRow.drew HT2.out.1)
      clear HT2 HU2 HT1d HU1d HB5 HR5 hcq hfq d3 d4 t3 t4 z3 z4
      generalize (W5.setCell ⟨g2, qi, none⟩ (.int .u8 (bits .xor .u8 (l[qi].toNat : Int) (IntKind.u8.wrap (2 ^ qr))))).drew = W6 at HB6 HR6 HX6 HY6 ⊢
      have HW6 := Lib.hid (HW.out.below HB6.out HW.out.1)
      have RX6 := Lib.hid (own_rd HX6.out (flip_length l mi mr))
      have RY6 := Lib.hid (own_rd HY6.out (flip_length l qi qr))
      clear HX6 HY6
      go_wp2_with fail
      refine (Check_one W6 HW6.out _ _ _ (flip l mi mr) (flip_length l mi mr) RX6.out _ rfl).mono ?_
      rintro e w7 ⟨rfl, hb⟩
      have HB7 := Lib.hid (HB6.out.trans (hb.mono HB6.out.size))
      have HW7 := Lib.hid (HW6.out.below hb HW6.out.1)
      have HR7 := Lib.hid ((HR6.out.below hb).more hb.size)
      have RX7 := Lib.hid ((RX6.out.below hb).more hb.size)
      have RY7 := Lib.hid ((RY6.out.below hb).more hb.size)
      clear hb RX6 RY6 HR6
      go_wp2_with fail
      refine (Check_one w7 HW7.out _ _ _ l rfl HR7.out _ rfl).mono ?_
      rintro e w8 ⟨rfl, hb⟩
      have HB8 := Lib.hid (HB7.out.trans (hb.mono HB7.out.size))
      have HW8 := Lib.hid (HW7.out.below hb HW7.out.1)
      have RX8 := Lib.hid ((RX7.out.below hb).more hb.size)
      have RY8 := Lib.hid ((RY7.out.below hb).more hb.size)
      clear hb RX7 RY7 HR7
      have hne : (((Crc.check (flip l mi mr) : Nat) : Int) != ((Crc.check l : Nat) : Int)) = true := by
        have h := flip_ne l mi mr hmi hmr
        simp only [bne_iff_ne, ne_eq]
        omega
      go_wp2_with fail
      refine (Check_one w8 HW8.out _ _ _ (flip l mi mr) (flip_length l mi mr) RX8.out _ rfl).mono ?_
      rintro e w9 ⟨rfl, hb⟩
      have HB9 := Lib.hid (HB8.out.trans (hb.mono HB8.out.size))
      have HW9 := Lib.hid (HW8.out.below hb HW8.out.1)
      have RY9 := Lib.hid ((RY8.out.below hb).more hb.size)
      clear hb RX8 RY8
      go_wp2_with fail
      refine (Check_one w9 HW9.out _ _ _ (flip l qi qr) (flip_length l qi qr) RY9.out _ rfl).mono ?_
      rintro e w10 ⟨rfl, hb⟩
      have HB10 := Lib.hid (HB9.out.trans (hb.mono HB9.out.size))
      have HW10 := Lib.hid (HW9.out.below hb HW9.out.1)
      clear hb RY9
      have hsame : (((Crc.check (flip l mi mr) : Nat) : Int) == ((Crc.check (flip l qi qr) : Nat) : Int)) = ((m : Int) == (q : Int)) := by
        have h := flip_two l mi mr qi qr hmi hmr hqi hqr (by have := hM8.out; have := hQ8.out; omega) (by have := hM8.out; have := hQ8.out; omega)
        have h2 := hM8.out
        have h3 := hQ8.out
        rw [Bool.eq_iff_iff]
        simp only [beq_iff_eq]
        constructor
        · intro e; have := h.1 (by omega); omega
        · intro e; have := h.2 (by omega); omega
      obtain ⟨s, hs⟩ : ∃ s, ((m : Int) == (q : Int)) = s := ⟨_, rfl⟩
      rw [hs] at hsame
      go_wp2_with (go_at_call 10; refine (goes_any _ HW10.out).mono ?_; rintro e w11 ⟨rfl, hb⟩)
      go_ret
      exact ⟨rfl, HB10.out.trans (hb.mono HB10.out.size)⟩

set_option maxHeartbeats 1000000 in
theorem crcOne_big (A : Option Addr) (n c : Nat) (i j : Int) (w : World) (hn : 4000 < n) (hmax : n ≤ 9223372036854775807) :
    Calls Tryd.prog 6 #[.slice A n c, .int .u16 i, .int .u16 j] w fun e w' => e = .returned (.bool true) ∧ Below w.heap.size w w' := by
  go_enter Tryd.func6, Tryd.ntmps6
  go_wp2_with fail
  go_ret
  exact ⟨rfl, Below.refl _ _⟩
set_option maxHeartbeats 1000000 in
theorem crcOne_none (A : Option Addr) (c : Nat) (i j : Int) (w : World) (hw : Tab w) :
    Calls Tryd.prog 6 #[.slice A 0 c, .int .u16 i, .int .u16 j] w fun e w' => e = .returned (.bool true) ∧ Below w.heap.size w w' := by
  have HW := Lib.hid hw
  clear hw
  go_enter Tryd.func6, Tryd.ntmps6
  go_wp2_with (go_at_call 10; refine (goes_any _ HW.out).mono ?_; rintro e w5 ⟨rfl, hb⟩)
  go_ret
  exact ⟨rfl, hb⟩

theorem crcOne_walk (A : Option Addr) (n c : Nat) (l : List UInt8) (hn : l.length = n) (i j : Int) (w : World) (hw : Tab w) (hl : Rd w w.heap.size A c l) (hi : (Lit.int .u16 i).wf = true) (hj : (Lit.int .u16 j).wf = true) :
    Calls Tryd.prog 6 #[.slice A n c, .int .u16 i, .int .u16 j] w fun e w' => e = .returned (.bool true) ∧ Below w.heap.size w w' := by
  subst hn
  have bi := bounds_u16 hi
  have bj := bounds_u16 hj
  by_cases hbig : 4000 < l.length
  · exact crcOne_big A _ c i j w hbig (by have := hl.1; have := hl.2.1; unfold maxLen at this; omega)
  by_cases h0 : l.length = 0
  · rw [h0]; exact crcOne_none A c i j w hw
  obtain ⟨b, off, rfl, _, _⟩ := hl.2.2.2 (by omega)
  obtain ⟨m, hm⟩ := Int.eq_ofNat_of_zero_le (Int.emod_nonneg i (show 8 * (l.length : Int) ≠ 0 by omega))
  obtain ⟨n, hn⟩ := Int.eq_ofNat_of_zero_le (Int.emod_nonneg j (show 8 * (l.length : Int) ≠ 0 by omega))
  exact crcOne_mid b off c l i j m n w hw hl (by omega) (by omega) bi.1 (by omega) bj.1 (by omega) hm hn
end Go.Proofs.YtonmgcfnhbfpgaaDoor
