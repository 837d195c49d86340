import Derived.Test.YtpnnakjffcohoaaF1
namespace Go.Proofs.Ytpnnakjffcohoaa
set_option linter.unusedVariables false
set_option linter.unusedSimpArgs false
open Go.RowKit Mem Go.ChangeMaps

theorem ActOk.alloc' {w : World} {B : Nat} {a : ActD} (h : ActOk w B a) (hB : B ≤ w.heap.size) (o : Obj) : ActOk (w.alloc o) B a :=
  ⟨h.d, h.l, h.m, h.bb, h.cb, h.sb, h.fl, h.fr.below ((Below.refl B w).alloc hB o)⟩

/-- What the loop of DiskFates holds: the disk, the pages as they were flushed, the order and the set that it keeps itself. -/
structure Lp (W w : World) (y : Lay) (d : Dsk) (m n : Nat) (L : Nat → List UInt8) (v9 o : Value) (sb k : Nat) : Prop where
  s : St W.heap.size W w (W.heap.size + 2) y d m
  f : Fw d n L
  m : m ≤ 2 * k
  p : Pages w y.foot v9 n L
  own : OwnI w 0 o (ints d.order)
  of : ∀ j, o.ownBlock = some j → ¬ y.foot j ∧ W.heap.size ≤ j
  q : MapIs w sb k (.bool false) (fun i => if i ∈ d.order then some (.bool true) else none)
  qf : ¬ y.foot sb ∧ W.heap.size ≤ sb
  ol : d.order.length ≤ k

variable {W w : World} {y : Lay} {d : Dsk} {m n : Nat} {L : Nat → List UInt8} {v9 o : Value} {sb k : Nat}
theorem Lp.kp (h : Lp W w y d m n L v9 o sb k) {w' : World} {y' : Lay} (s' : St W.heap.size W w' (W.heap.size + 2) y' d m) (kp : Kp w y w' y') : Lp W w' y' d m n L v9 o sb k :=
  ⟨s', h.f, h.m, h.p.kp kp, ownI_move h.own fun j e => (kp.free (World.ownsRow.lt h.own j e).2 (h.of j e).1).2, fun j e => ⟨(kp.free (World.ownsRow.lt h.own j e).2 (h.of j e).1).1, (h.of j e).2⟩,
    h.q.of_block (kp.free h.q.lt h.qf.1).2, ⟨(kp.free h.q.lt h.qf.1).1, h.qf.2⟩, h.ol⟩
/-- Behind a write. -/
theorem Lp.written (h : Lp W w y d m n L v9 o sb k) {w' : World} {y' : Lay} {d' : Dsk} (s' : St W.heap.size W w' (W.heap.size + 2) y' d' (m + 2)) (kp : Kp w y w' y') (hf : Fw d' n L) (ho : d'.order = d.order) : Lp W w' y' d' (m + 2) n L v9 o sb (k + 1) :=
  ⟨s', hf, by have := h.m; omega, h.p.kp kp, by rw [ho]; exact ownI_move h.own fun j e => (kp.free (World.ownsRow.lt h.own j e).2 (h.of j e).1).2, fun j e => ⟨(kp.free (World.ownsRow.lt h.own j e).2 (h.of j e).1).1, (h.of j e).2⟩,
    by rw [ho]; exact (h.q.of_block (kp.free h.q.lt h.qf.1).2).mono (Nat.le_succ _), ⟨(kp.free h.q.lt h.qf.1).1, h.qf.2⟩, by rw [ho]; have := h.ol; omega⟩

/-- A page that waits for the first time goes into the set, and into the order. -/
theorem lp_push {w5 w6 w7 : World} {y5 : Lay} {d' : Dsk} {kk : Nat} {v' : Value} (s5 : St W.heap.size W w5 (W.heap.size + 2) y5 d' (m + 2)) (hm : m ≤ 2 * k) (hf : Fw d' n L) (ho : d'.order = d.order ++ [kk]) (hol : d.order.length ≤ k)
    (p5 : Pages w5 y5.foot v9 n L) (o5 : OwnI w5 0 o (ints d.order)) (of5 : ∀ j, o.ownBlock = some j → ¬ y5.foot j ∧ W.heap.size ≤ j) (hsb : sb < w5.heap.size) (hmap : ∃ es cl, w5.heap[sb]? = some (.map es cl)) (qf5 : ¬ y5.foot sb ∧ W.heap.size ≤ sb)
    (q6 : MapIs w6 sb (k + 1) (.bool false) (fun i => if i = kk then some (.bool true) else if i ∈ d.order then some (.bool true) else none)) (ht : w5.mapTurned w6 sb)
    (o7 : OwnI w7 0 v' (ints d.order ++ [(kk : Int)])) (hg : (w6.alloc (.cells #[.int .i64 (kk : Int)] 3)).grownBy w7 o.ownBlock) (hat : v'.ownBlock = o.ownBlock ∨ v'.ownBlock = some (w6.alloc (.cells #[.int .i64 (kk : Int)] 3)).heap.size) :
    Lp W w7 y5 d' (m + 2) n L v9 v' sb (k + 1) := by
  have hg5 := ht.grown
  have s6 := s5.grown hg5 (fun j e => by injection e with e; subst e; exact qf5)
  have s6a := s6.alloc (.cells #[.int .i64 (kk : Int)] 3)
  have s7 := s6a.grown hg of5
  have hb5 := ownI_type o5
  have hne : ∀ j, o.ownBlock = some j → j ≠ sb := fun j e e2 => by
    obtain ⟨cs, h1⟩ := hb5 j e
    obtain ⟨es, cl, h2⟩ := hmap
    subst e2
    rw [h1] at h2; cases h2
  have hb6 : ∀ j, o.ownBlock = some j → ∃ cs, (w6.alloc (.cells #[.int .i64 (kk : Int)] 3)).heap[j]? = some (.cells cs 3 (0, 0)) := fun j e => by
    obtain ⟨cs, h1⟩ := hb5 j e
    have hlt := (World.ownsRow.lt o5 j e).2
    refine ⟨cs, (Below.heap_alloc _ _ _ (Nat.lt_of_lt_of_le hlt hg5.size)).trans ((hg5.block j hlt (fun e2 => hne j e (by injection e2))).trans h1)⟩
  have p6 := p5.grown hg5 (fun j e cs t fr hh => by
    injection e with e; subst e
    obtain ⟨es, cl, h2⟩ := hmap
    rw [h2] at hh; cases hh)
  have p7 := (p6.below ((Below.refl _ _).alloc (Nat.le_refl _) (.cells #[.int .i64 (kk : Int)] 3))).grown hg (fun j e cs t fr hh => by
    obtain ⟨cs', h2⟩ := hb6 j e
    rw [h2] at hh; cases hh; rfl)
  refine ⟨s7, hf, by omega, p7, by rw [ho]; simpa [ints] using o7, fun j e => ?_, ?_, qf5, by rw [ho]; simp; omega⟩
  · rcases hat with e2 | e2
    · exact of5 j (e2 ▸ e)
    · rw [e2] at e; injection e with e; subst e
      exact ⟨fresh_not s6a.is _ (Nat.le_refl _), Nat.le_trans s6a.base s6a.bel.size⟩
  · have h1 : MapIs w7 sb (k + 1) (.bool false) (fun i => if i = kk then some (.bool true) else if i ∈ d.order then some (.bool true) else none) :=
      (q6.of_block (w' := w6.alloc (.cells #[.int .i64 (kk : Int)] 3)) (Below.heap_alloc _ _ _ q6.lt)).of_block (hg.block sb (Nat.lt_of_lt_of_le q6.lt (by simp)) (fun e => hne sb e.symm rfl))
    have e : (fun i => if i ∈ d'.order then some (Value.bool true) else none) = fun i => if i = kk then some (.bool true) else if i ∈ d.order then some (.bool true) else none := by
      funext i
      rw [ho]
      by_cases e1 : i = kk
      · subst e1; simp
      · simp [e1]
    rw [e]; exact h1

set_option maxRecDepth 20000 in
set_option maxHeartbeats 2000000 in
theorem diskFates_core (a0 : Int) (h00 : 0 ≤ a0) (h01 : a0 < 256) (A1 : Option Addr) (len1 cap1 : Nat) (f1 : Nat → ActD) (whole : Bool)
    (w : World) (w1 : Acts w w.heap.size A1 len1 cap1 f1) :
    Calls Try.prog 5 #[.int .u8 a0, .slice A1 len1 cap1, .bool whole] w fun e w' => e = .returned (.bool true) ∧ Below w.heap.size w w' := by
  have HA1 := Lib.hid w1
  have hwn : wrap64 a0 = a0 := by unfold wrap64; omega
  have hk : a0.tmod 12 = ((a0.toNat % 12 : Nat) : Int) := by rw [Int.tmod_eq_emod_of_nonneg h00]; omega
  obtain ⟨n, hn⟩ : ∃ n, n = 1 + a0.toNat % 12 := ⟨_, rfl⟩
  have hn1 : 1 ≤ n := by omega
  have hn2 : n ≤ 12 := by omega
  have hk1 : (1 : Int) + a0.tmod 12 = (n : Int) := by omega
  have HN := Lib.hid (And.intro hn1 hn2)
  have hmm := @run_makeMap Try.prog
  clear w1 h00 h01 hk hn hn1 hn2
  go_enter Try.func5, Try.ntmps5
  go_wp2_with fail
  refine (great_any A1 len1 cap1 f1 w _ HA1.out).mono ?_
  rintro e w1 ⟨r1, rfl, rfl, hr1⟩
  have HR1 := Lib.hid hr1
  clear hr1
  by_cases g1 : 0 < r1
  · go_wp2_with fail
    go_ret
    exact ⟨rfl, Below.refl _ _⟩
  obtain ⟨hlen1, hf1⟩ := HR1.out.out g1
  have HF1 := Lib.hid (And.intro hlen1 hf1)
  clear hlen1 hf1 HR1
  have hk2 : wrap64 (n : Int) = (n : Int) := by unfold wrap64; have := HN.out.2; omega
  go_wp2_with fail
  refine (St.new n _ HN.out.1 (by have := HN.out.2; omega)).mono ?_
  rintro e wn ⟨rfl, s0⟩
  have S0 := Lib.hid s0
  clear s0 g1 hk1 hk2 hwn
  go_wp2_with fail
  refine (S0.out.flush (by omega)).mono ?_
  rintro e w2 ⟨rfl, y2, s2, _⟩
  obtain ⟨fw, fa, fo⟩ := Fw.start n
  rw [fa]
  have S2 := Lib.hid s2
  have FW2 := Lib.hid fw
  have FO2 := Lib.hid (And.intro fo (fun i => Fw.start_page n i))
  clear s2 S0 fw fa fo
  generalize (newD n).doF = d2 at S2 FW2 FO2
  go_wp2_with fail
  refine (all_any S2.out FW2.out.dead).mono ?_
  rintro e w3 ⟨v9, rfl, s3, b3, p3⟩
  rw [FW2.out.n] at p3
  have HMK := Lib.hid (show MapIs (w3.alloc (.map #[] 0)) w3.heap.size 0 (.bool false) (fun i => if i ∈ d2.order then some (.bool true) else none) by
    have e : (fun i => if i ∈ d2.order then some (Value.bool true) else none) = fun _ => none := by rw [FO2.out.1]; funext i; rfl
    rw [e]
    exact MapIs.made w3 (.bool false) (zd := .lit (.bool false)) rfl)
  have L3 := Lib.hid (show Lp w1 (w3.alloc (.map #[] 0)) y2 d2 0 n (fun _ => zpage) v9 (.slice none 0 0) w3.heap.size 0 from
    ⟨s3.alloc _, FW2.out, Nat.zero_le _, (p3.congr fun i _ => FO2.out.2 i).below ((Below.refl _ _).alloc (Nat.le_refl _) _), by rw [FO2.out.1]; exact OwnI.nil _ _, (fun j e => by cases e),
      HMK.out,
      ⟨fresh_not s3.is _ (Nat.le_refl _), Nat.le_trans s3.base s3.bel.size⟩, by rw [FO2.out.1]; exact Nat.le_refl _⟩)
  obtain ⟨sb, hsb⟩ : ∃ sb, sb = w3.heap.size := ⟨_, rfl⟩
  rw [← hsb] at L3
  have HSB := Lib.hid hsb
  obtain ⟨LL, hLL⟩ : ∃ LL : Nat → List UInt8, LL = fun _ => zpage := ⟨_, rfl⟩
  rw [← hLL] at L3
  clear s3 b3 p3 S2 FW2 FO2 hLL
  go_wp2_with fail
  rw [← hsb]
  clear hsb
  go_loopw [12, 10] (fun v o wr => ∃ k : Nat, k ≤ len1 ∧ v = .int .i64 k ∧ Hid (∃ y d m, Lp w1 wr y d m n LL v9 o sb k)) (fun v _ _ => len1 - (intOf v).toNat)
  case atStart => exact ⟨0, Nat.zero_le _, rfl, _, _, _, L3.out⟩
  case round =>
    clear L3
    obtain ⟨k, hk, rfl, hX⟩ := hrel
    obtain ⟨y, d, m, lp⟩ := hX.out
    have LP := Lib.hid lp
    clear hX lp
    have hl60 : len1 ≤ 60 := HF1.out.1
    by_cases hlt : k < len1
    · have ha := HA1.out.below LP.out.s.bel
      obtain ⟨b, ao, rfl, hb, hc⟩ := ha.2.2 (by omega)
      have hcc := hc k hlt
      have c0 := hcc.c0
      have c1 := hcc.c1
      have c2 := hcc.c2
      have c3 := hcc.c3
      have c4 := hcc.c4
      have c5 := hcc.c5
      have AK := Lib.hid hcc.ok
      have hq : (((f1 k).dw : Nat) : Int).tmod 7 = (((f1 k).dw % 7 : Nat) : Int) := by rw [Int.tmod_eq_emod_of_nonneg (by omega)]; omega
      obtain ⟨q, hqq⟩ : ∃ q, q = (f1 k).dw % 7 := ⟨_, rfl⟩
      rw [← hqq] at hq
      have HQ := Lib.hid hqq
      clear ha hc hcc hqq
      by_cases hq0 : q = 0
      · subst hq0
        have HAb := Lib.hid hb
        clear hb
        have C1 := Lib.hid c1
        go_wp2_with fail
        refine (does_any LP.out.s (f1 k) AK.out (by have := LP.out.m; omega)).mono ?_
        rintro e w5 ⟨rfl, y5, s5, k5⟩
        have e1 : d.ansA (f1 k) = d.ansW (f1 k).at' := by unfold Dsk.ansA; rw [← HQ.out]; rfl
        have e2 : d.doA (f1 k) = d.doW (f1 k).at' (f1 k).page := by unfold Dsk.doA; rw [← HQ.out]; rfl
        rw [e1]
        rw [e2] at s5
        have C5 := Lib.hid (show w5.cell? ⟨b, ao + k * 6 + 1, none⟩ = some (.int .i64 (f1 k).at') from (s5.bel.cell (p := ⟨b, ao + k * 6 + 1, none⟩) HAb.out).trans ((LP.out.s.bel.cell (p := ⟨b, ao + k * 6 + 1, none⟩) HAb.out).symm.trans C1.out))
        clear c0 c1 c2 c3 c4 c5 e1 e2 hq
        rcases LP.out.f.write (f1 k).at' (f1 k).page with ⟨ha, hd⟩ | ⟨kk, hat, hkn, ha, hfw, hord, _⟩
        · rw [ha]
          rw [hd] at s5
          have X7 := Lib.hid (show ∃ y d m, Lp w1 w5 y d m n LL v9 u10 sb (k + 1) from ⟨_, _, _, LP.out.written s5 k5 LP.out.f rfl⟩)
          clear s5 k5 LP AK ha hd C1 C5
          go_wp2_with fail
          go_roundw
          case rel => exact ⟨k + 1, by omega, by go_num, X7.out⟩
          case measure => simp [intOf]; omega
        · rw [ha]
          have q5 := LP.out.q.of_block (k5.free LP.out.q.lt LP.out.qf.1).2
          have hkk : kk < 4611686018427387904 := by have := HN.out.2; omega
          have hlk := q5.look Try.underlying54 (zero4 _) kk hkk
          have c1' := C5.out
          rw [hat] at c1'
          by_cases hin : kk ∈ d.order
          · rw [if_pos hin] at hlk hord
            have X7 := Lib.hid (show ∃ y d m, Lp w1 w5 y d m n LL v9 u10 sb (k + 1) from ⟨_, _, _, LP.out.written s5 k5 hfw hord⟩)
            simp only [Option.getD_some] at hlk
            clear s5 k5 LP AK ha hfw hord C1 C5 q5 hin hkn
            go_wp2_with fail
            go_roundw
            case rel => exact ⟨k + 1, by omega, by go_num, X7.out⟩
            case measure => simp [intOf]; omega
          · rw [if_neg hin] at hlk hord
            simp only [Option.getD_none] at hlk
            obtain ⟨w6, hst, q6, ht⟩ := q5.store Try.underlying54 (by unfold maxLen; omega) kk hkk (.bool true) (z := .lit (.bool true)) rfl
            have hg5 := ht.grown
            have o5 := ownI_move LP.out.own fun j e => (k5.free (World.ownsRow.lt LP.out.own j e).2 (LP.out.of j e).1).2
            have of5 : ∀ j, (u10 : Value).ownBlock = some j → ¬ y5.foot j ∧ w1.heap.size ≤ j := fun j e => ⟨(k5.free (World.ownsRow.lt LP.out.own j e).2 (LP.out.of j e).1).1, (LP.out.of j e).2⟩
            have hmap := mapIs_type q5
            have o6 := ownI_move (w' := w6) o5 fun j e => hg5.block j (World.ownsRow.lt o5 j e).2 (fun e2 => by
              obtain ⟨cs, x1⟩ := ownI_type o5 j e
              obtain ⟨es, cl, x2⟩ := hmap
              injection e2 with e2
              subst e2
              rw [x1] at x2; cases x2)
            have s6 := s5.grown hg5 (fun j e => by injection e with e; subst e; exact ⟨(k5.free LP.out.q.lt LP.out.qf.1).1, LP.out.qf.2⟩)
            have c6 : w6.cell? ⟨b, ao + k * 6 + 1, none⟩ = some (.int .i64 (kk : Int)) := by
              rw [← hat]
              exact (s6.bel.cell (p := ⟨b, ao + k * 6 + 1, none⟩) HAb.out).trans ((LP.out.s.bel.cell (p := ⟨b, ao + k * 6 + 1, none⟩) HAb.out).symm.trans C1.out)
            have PU := Lib.hid (fun (w7 : World) (v' : Value) (o7 : OwnI w7 0 v' (ints d.order ++ [(kk : Int)])) (hg : (w6.alloc (.cells #[.int .i64 (kk : Int)] 3)).grownBy w7 (u10 : Value).ownBlock) (hat : v'.ownBlock = (u10 : Value).ownBlock ∨ v'.ownBlock = some (w6.alloc (.cells #[.int .i64 (kk : Int)] 3)).heap.size) =>
              lp_push s5 LP.out.m hfw hord LP.out.ol (LP.out.p.kp k5) o5 of5 q5.lt hmap ⟨(k5.free LP.out.q.lt LP.out.qf.1).1, LP.out.qf.2⟩ q6 ht o7 hg hat)
            have O6 := Lib.hid (World.ownsRow.alloc o6 (.cells #[.int .i64 (kk : Int)] 3) : OwnI (w6.alloc (.cells #[.int .i64 (kk : Int)] 3)) 0 u10 (ints d.order))
            have OL := Lib.hid (show (ints d.order).length ≤ 60 by rw [ints_len]; have := LP.out.ol; omega)
            clear s5 k5 LP AK ha hfw hord C1 C5 q5 hin hkn hg5 o5 of5 hmap o6 s6 q6 ht hkk
            go_wp2_with (at_builtin; refine wpList_append_i rfl _ _ rfl 0 _ _ rfl O6.out (w6.heap.size + 1) _ _ _ [(kk : Int)] rfl rfl (by have := RdI.lit w6 [(kk : Int)] (by simp [maxLen]); rw [size_alloc'] at this; exact this) (by have := OL.out; simp only [List.length_cons, List.length_nil]; omega) (Nat.zero_le _) ?_; intro v' w7 o7 hg7 hat7; have X7 := Lib.hid (PU.out _ _ o7 hg7 hat7); clear o7 hg7 hat7)
            go_roundw
            case rel => exact ⟨k + 1, by omega, by go_num, _, _, _, X7.out⟩
            case measure => simp [intOf]; omega
      · have hq0' : ((q : Int) == 0) = false := beq_eq_false_iff_ne.2 (by omega)
        have X7 := Lib.hid (show ∃ y d m, Lp w1 wr y d m n LL v9 u10 sb (k + 1) from
          ⟨_, _, _, LP.out.s, LP.out.f, by have := LP.out.m; omega, LP.out.p, LP.out.own, LP.out.of, LP.out.q.mono (Nat.le_succ _), LP.out.qf, by have := LP.out.ol; omega⟩)
        clear LP AK hq0
        go_wp2_with fail
        go_roundw
        case rel => exact ⟨k + 1, by omega, by go_num, X7.out⟩
        case measure => simp [intOf]; omega
    · obtain rfl : k = len1 := by omega
      have MB := Lib.hid (show m ≤ 200 by have := LP.out.m; omega)
      have DN := Lib.hid (show d.n = n from LP.out.f.n)
      go_wp2_with fail
      refine (LP.out.s.waits (by have := MB.out; omega)).mono ?_
      rintro e w4 ⟨v4, rfl, o4, s4, b4⟩
      have o5 := ownI_move (w' := w4) LP.out.own fun j e => b4.block j (World.ownsRow.lt LP.out.own j e).2
      obtain ⟨A4, c4, rfl, r4, _, _⟩ := o4.form
      obtain ⟨A5, c5, hu10, r5, _, _⟩ := o5.form
      obtain ⟨nn, hnn⟩ : ∃ nn, nn = (ints d.order).length := ⟨_, rfl⟩
      have hnl : nn = d.order.length := by rw [hnn, ints_len]
      rw [← hnn] at hu10 ⊢
      rw [hu10]
      have R4 := Lib.hid r4
      have R5 := Lib.hid r5
      have P4 := Lib.hid (LP.out.p.below b4)
      have S4 := Lib.hid s4
      have NN := Lib.hid (And.intro hnn hnl)
      have hn60 : nn ≤ 60 := by have := LP.out.ol; omega
      have FW := Lib.hid LP.out.f
      clear o4 s4 b4 o5 r4 r5 LP hu10 hnn hnl
      go_wp2_with fail
      go_loopw [15, 14] (fun v fv wz => ∃ j : Nat, j ≤ nn ∧ v = .int .i64 j ∧ Hid (Below w4.heap.size w4 wz ∧ OwnI wz w4.heap.size fv (ones j))) (fun v _ _ => nn - (intOf v).toNat)
      case atStart => exact ⟨0, Nat.zero_le _, rfl, Below.refl _ _, OwnI.nil _ _⟩
      case round =>
        obtain ⟨j, hj, rfl, hX⟩ := hrel
        obtain ⟨bz, oz⟩ := hX.out
        have BW := Lib.hid bz
        have OW := Lib.hid oz
        clear hX bz oz
        by_cases hjn : j < nn
        · have hjl : j < (ints d.order).length := by rw [← NN.out.1]; exact hjn
          obtain ⟨ba, oa, rfl, hba, xa⟩ := R4.out.2.2.2 (by omega)
          obtain ⟨bb, ob, rfl, hbb, xb⟩ := R5.out.2.2.2 (by omega)
          have ca := (BW.out.cell (p := ⟨ba, oa + j, none⟩) hba).trans (xa j hjl)
          have cb := (BW.out.cell (p := ⟨bb, ob + j, none⟩) hbb).trans (xb j hjl)
          generalize (ints d.order)[j] = pv at ca cb
          have hji : (j : Int) < (nn : Int) := by omega
          clear xa xb hjl hba hbb
          go_wp2_with fail
          go_quiet (fail)
          have BV := Lib.hid (below_drewN BW.out nq)
          have OV := Lib.hid (ownI_move (w' := wr.drewN nq) OW.out fun _ _ => rfl)
          generalize wr.drewN nq = V at BV OV ⊢
          have O1 := Lib.hid (World.ownsRow.alloc OV.out (.cells #[.int .i64 255] 3) : OwnI (V.alloc (.cells #[.int .i64 255] 3)) w4.heap.size u14 (ones j))
          have HG := Lib.hid (fun (w7 : World) (v' : Value) (o7 : OwnI w7 w4.heap.size v' (ones j ++ [255])) (hg : (V.alloc (.cells #[.int .i64 255] 3)).grownBy w7 (u14 : Value).ownBlock) =>
            show Below w4.heap.size w4 w7 ∧ OwnI w7 w4.heap.size v' (ones (j + 1)) from
            ⟨((BV.out).alloc BV.out.size _).grown hg (Nat.le_trans BV.out.size (by simp)) (fun k e => (World.ownsRow.lt OV.out k e).1), ones_succ j ▸ o7⟩)
          have HSZ := Lib.hid (Nat.le_trans BV.out.size (show V.heap.size ≤ (V.alloc (.cells #[.int .i64 255] 3)).heap.size by simp))
          clear ca cb hji
          go_wp2_with (at_builtin; refine wpList_append_i rfl _ _ rfl w4.heap.size _ _ rfl O1.out (V.heap.size + 1) _ _ _ [255] rfl rfl (by have := RdI.lit V [255] (by simp [maxLen]); rw [size_alloc'] at this; exact this) (by rw [ones_len]; simp only [List.length_cons, List.length_nil]; omega) HSZ.out ?_; intro v' w7 o7 hg7 hat7; have X7 := Lib.hid (HG.out _ _ o7 hg7); clear o7 hg7 hat7)
          go_roundw
          case rel => exact ⟨j + 1, by omega, by go_num, X7.out⟩
          case measure => simp [intOf]; omega
        · obtain rfl : j = nn := by omega
          obtain ⟨A6, c6, hfv, r6, hlt6, _⟩ := OW.out.form
          rw [ones_len] at hfv
          subst hfv
          have SW := Lib.hid (S4.out.keep BW.out)
          have PV := Lib.hid (P4.out.below BW.out)
          have R6 := Lib.hid r6
          have N6 := Lib.hid (show ∀ a, A6 = some a → ¬ y.foot a.block from fun a e => fresh_not S4.out.is a.block (hlt6 a.block (by rw [e]; rfl)).1)
          clear r6 hlt6 hn60
          cases whole with
          | true =>
            go_wp2_with fail
            refine (all_any SW.out FW.out.dead).mono ?_
            rintro e w12 ⟨v12, rfl, s12, b12, p12⟩
            rw [FW.out.n] at p12
            have S12 := Lib.hid s12
            have P12 := Lib.hid p12
            have R12 := Lib.hid ((R6.out.below b12).more b12.size)
            have EQ := Lib.hid (show ∀ i, i < n → (d.restart (ones j)).page i = d.page i from fun i hi => by
              have h1 : i < d.n := by rw [FW.out.n]; exact hi
              rw [NN.out.2]
              exact restart_ones s12.good i (s12.is.lastLen i h1) (page_len s12.is i h1) h1)
            clear s12 b12 p12 SW
            go_wp2_with fail
            refine (S12.out.restart (by have := MB.out; omega) A6 c6 j (ones j) R12.out (ones_len j) (fun _ => N6.out)).mono ?_
            rintro e w13 ⟨rfl, y13, s13, k13⟩
            have SR := Lib.hid s13
            have PW := Lib.hid (P12.out.kp k13)
            clear s13 k13 S12 P12 R12 R6
            go_wp2_with fail
            refine (all_any SR.out rfl).mono ?_
            rintro e wa ⟨va, rfl, sa, ba, pa⟩
            have en : (d.restart (ones j)).n = n := (restart_n _ _).trans DN.out
            rw [en] at pa
            have PA := Lib.hid pa
            have PB := Lib.hid (PW.out.below ba)
            have SA := Lib.hid sa
            clear sa ba pa SR PW en
            go_wp2_with fail
            refine (same_any wa va v12 n _ _ PA.out PB.out EQ.out (by have := HN.out.2; omega)).mono ?_
            rintro e wb ⟨rfl, bb⟩
            have SB := Lib.hid (SA.out.keep bb)
            clear bb SA PA PB
            go_wp2_with fail
            refine (SB.out.waits (by have := MB.out; omega)).mono ?_
            rintro e wc ⟨vc, rfl, oc, sc, bc⟩
            obtain ⟨Ac, cc, rfl, _, _, _⟩ := oc.form
            have el : (ints (d.restart (ones j)).order).length = 0 := rfl
            rw [el]
            have SC := Lib.hid sc
            clear oc sc bc SB el
            go_wp2_with fail
            refine (dead_any SC.out.is).mono ?_
            rintro e wd ⟨rfl, rfl⟩
            rw [show (d.restart (ones j)).dead = false from rfl]
            have BZ := Lib.hid SC.out.bel
            have BS := Lib.hid BZ.out.size
            clear SC
            go_wp2_with fail
            refine (goes_any wd).mono ?_
            rintro e we ⟨rfl, hb⟩
            have HB := Lib.hid hb
            clear hb
            go_wp2_with fail
            go_ret
            exact ⟨rfl, BZ.out.trans (HB.out.mono BS.out)⟩
          | false =>
            go_wp2_with fail
            refine (SW.out.restart (by have := MB.out; omega) none 0 0 [] (RdI.nil _ _) rfl (fun h => by simp at h)).mono ?_
            rintro e w13 ⟨rfl, y13, s13, k13⟩
            have SR := Lib.hid s13
            have PW := Lib.hid (PV.out.kp k13)
            have EQ := Lib.hid (show ∀ i, i < n → (d.restart []).page i = LL i from fun i _ => by rw [restart_page, restart_nilfates]; exact FW.out.last i)
            clear s13 k13 SW R6
            go_wp2_with fail
            refine (all_any SR.out rfl).mono ?_
            rintro e wa ⟨va, rfl, sa, ba, pa⟩
            have en : (d.restart []).n = n := (restart_n _ _).trans DN.out
            rw [en] at pa
            have PA := Lib.hid pa
            have PB := Lib.hid (PW.out.below ba)
            have SA := Lib.hid sa
            clear sa ba pa SR PW en
            go_wp2_with fail
            refine (same_any wa va v9 n _ _ PA.out PB.out EQ.out (by have := HN.out.2; omega)).mono ?_
            rintro e wb ⟨rfl, bb⟩
            have SB := Lib.hid (SA.out.keep bb)
            clear bb SA PA PB
            go_wp2_with fail
            refine (SB.out.waits (by have := MB.out; omega)).mono ?_
            rintro e wc ⟨vc, rfl, oc, sc, bc⟩
            obtain ⟨Ac, cc, rfl, _, _, _⟩ := oc.form
            have el : (ints (d.restart []).order).length = 0 := rfl
            rw [el]
            have SC := Lib.hid sc
            clear oc sc bc SB el
            go_wp2_with fail
            refine (dead_any SC.out.is).mono ?_
            rintro e wd ⟨rfl, rfl⟩
            rw [show (d.restart []).dead = false from rfl]
            have BZ := Lib.hid SC.out.bel
            have BS := Lib.hid BZ.out.size
            clear SC
            go_wp2_with fail
            refine (goes_any wd).mono ?_
            rintro e we ⟨rfl, hb⟩
            have HB := Lib.hid hb
            clear hb
            go_wp2_with fail
            go_ret
            exact ⟨rfl, BZ.out.trans (HB.out.mono BS.out)⟩
end Go.Proofs.Ytpnnakjffcohoaa
