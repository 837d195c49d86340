import Derived.Test.YtbiofjddclbncaaMr5
namespace Go.Proofs.Ytbiofjddclbncaa.Mo
set_option linter.unusedVariables false
set_option linter.unusedSimpArgs false
open Go.RowKit Mem
set_option maxRecDepth 8000

/-- Digit j. -/
def dgn (V : Int) : Nat → Int
  | 0 => dg0 V
  | 1 => dg1 V
  | 2 => dg2 V
  | _ => dg3 V
theorem bl_at (V : Int) (j : Nat) (h : j < 4) : (bl V)[j]? = some (.int .u64 (dgn V j)) := by
  have : j = 0 ∨ j = 1 ∨ j = 2 ∨ j = 3 := by omega
  rcases this with rfl | rfl | rfl | rfl <;> rfl
theorem dgn_nat (n j : Nat) (h : j < 4) : dgn (n : Int) j = ((n / 2 ^ (32 * j) % 2 ^ 32 : Nat) : Int) := by
  have : j = 0 ∨ j = 1 ∨ j = 2 ∨ j = 3 := by omega
  rcases this with rfl | rfl | rfl | rfl
  · simp [dgn, dg0]
  · simp [dgn, dg1]
  · simp [dgn, dg2]
  · simp [dgn, dg3]
/-- Bit i of a number, off its digits. -/
theorem bit_of (n j m : Nat) (hm : m < 32) : n / 2 ^ (32 * j) % 2 ^ 32 / 2 ^ m % 2 = n / 2 ^ (32 * j + m) % 2 := by
  rw [← Nat.toNat_testBit, ← Nat.toNat_testBit, Nat.testBit_mod_two_pow, Nat.testBit_div_two_pow]
  simp [hm, Nat.add_comm]
theorem half_of (n i : Nat) : n / 2 ^ i = 2 * (n / 2 ^ (i + 1)) + n / 2 ^ i % 2 := by
  have : n / 2 ^ (i + 1) = n / 2 ^ i / 2 := by rw [Nat.pow_succ, Nat.div_div_eq_div_mul]
  omega
theorem two_dg (R b : Int) (hb : 0 ≤ b ∧ b ≤ 1) : IntKind.u64.wrap (dg0 (R + R) + b) = dg0 (R + R + b) ∧ dg1 (R + R) = dg1 (R + R + b) ∧ dg2 (R + R) = dg2 (R + R + b) ∧ dg3 (R + R) = dg3 (R + R + b) := by
  rw [IntKind.wrap_u64]; unfold dg0 dg1 dg2 dg3; omega

/-- Four digits are written. -/
def put4 (w : World) (b : Nat) (V : Int) : World := (((w.setCell ⟨b, 0, none⟩ (.int .u64 (dg0 V))).setCell ⟨b, 1, none⟩ (.int .u64 (dg1 V))).setCell ⟨b, 2, none⟩ (.int .u64 (dg2 V))).setCell ⟨b, 3, none⟩ (.int .u64 (dg3 V))
theorem vn_put4 {w : World} {b : Nat} {U : Int} (h : VN w b (bl U)) (V : Int) : VN (put4 w b V) b (bl V) :=
  (((h.set 0 (by simp [bl]) (.int .u64 (dg0 V))).set 1 (by simp [bl]) (.int .u64 (dg1 V))).set 2 (by simp [bl]) (.int .u64 (dg2 V))).set 3 (by simp [bl]) (.int .u64 (dg3 V))
theorem vn_put4_other {w : World} {b c : Nat} {xs : List Value} (h : VN w b xs) (hc : c ≠ b) (V : Int) : VN (put4 w c V) b xs :=
  (((h.other (p := ⟨c, 0, none⟩) hc _).other (p := ⟨c, 1, none⟩) hc _).other (p := ⟨c, 2, none⟩) hc _).other (p := ⟨c, 3, none⟩) hc _
theorem bel_put4 {w0 w : World} {B b : Nat} (h : Below B w0 w) (hb : B ≤ b) (V : Int) : Below B w0 (put4 w b V) :=
  bel_set (bel_set (bel_set (bel_set h hb _) hb _) hb _) hb _

/-- A division under way. -/
structure PSt (w wr : World) (nb yb : Nat) (N Q R d : Int) : Prop where
  n : VN wr nb (bl N)
  q : VN wr (nb + 1) (bl Q)
  r : VN wr (nb + 1 + 1) (bl R)
  y : VN wr yb (bl d)
  D : Below w.heap.size w wr
  lo : w.heap.size ≤ nb
  hi : nb + 1 + 1 < yb
variable {w wr V w' : World} {nb yb : Nat} {N Q R d : Int}
theorem PSt.over (h : PSt w wr nb yb N Q R d) (hb : Below V.heap.size V w') (e : V.heap = wr.heap) (e1 : V.os = wr.os) (e2 : V.tape = wr.tape) (e3 : V.output = wr.output) : PSt w w' nb yb N Q R d :=
  ⟨h.n.over hb e, h.q.over hb e, h.r.over hb e, h.y.over hb e, bel_over h.D hb e e1 e2 e3, h.lo, h.hi⟩
theorem PSt.putR (h : PSt w wr nb yb N Q R d) (X : Int) : PSt w (put4 wr (nb + 1 + 1) X) nb yb N Q X d :=
  ⟨vn_put4_other h.n (by omega) X, vn_put4_other h.q (by omega) X, vn_put4 h.r X, vn_put4_other h.y (by have := h.hi; omega) X, bel_put4 h.D (by have := h.lo; omega) X, h.lo, h.hi⟩
theorem PSt.putQ (h : PSt w wr nb yb N Q R d) (X : Int) : PSt w (put4 wr (nb + 1) X) nb yb N X R d :=
  ⟨vn_put4_other h.n (by omega) X, vn_put4 h.q X, vn_put4_other h.r (by omega) X, vn_put4_other h.y (by have := h.hi; omega) X, bel_put4 h.D (by have := h.lo; omega) X, h.lo, h.hi⟩
theorem PSt.same (h : PSt w wr nb yb N Q R d) (e : V.heap = wr.heap) (e1 : V.os = wr.os) (e2 : V.tape = wr.tape) (e3 : V.output = wr.output) : PSt w V nb yb N Q R d :=
  h.over (Below.refl _ _) e e1 e2 e3
theorem PSt.drewN (h : PSt w wr nb yb N Q R d) (n : Nat) : PSt w (wr.drewN n) nb yb N Q R d :=
  ⟨h.n.drewN n, h.q.drewN n, h.r.drewN n, h.y.drewN n, below_drewN h.D n, h.lo, h.hi⟩
theorem PSt.bit (h : PSt w wr nb yb N Q (R + R) d) (b : Int) (hb : 0 ≤ b ∧ b ≤ 1) : PSt w (wr.setCell ⟨nb + 1 + 1, 0, none⟩ (.int .u64 (dg0 (R + R + b)))) nb yb N Q (R + R + b) d := by
  obtain ⟨_, e1, e2, e3⟩ := two_dg R b hb
  have hr := h.r.set 0 (by simp [bl]) (.int .u64 (dg0 (R + R + b)))
  refine ⟨h.n.other (p := ⟨nb + 1 + 1, 0, none⟩) (by simp; try omega) _, h.q.other (p := ⟨nb + 1 + 1, 0, none⟩) (by simp; try omega) _, ?_, h.y.other (p := ⟨nb + 1 + 1, 0, none⟩) (by have := h.hi; simp; omega) _, bel_set h.D (by have := h.lo; omega) _, h.lo, h.hi⟩
  have : (bl (R + R)).set 0 (.int .u64 (dg0 (R + R + b))) = bl (R + R + b) := by unfold bl; rw [← e1, ← e2, ← e3]; rfl
  rw [this] at hr; exact hr

set_option maxHeartbeats 400000 in
theorem RPart_no (a b d : Int) (w : World) (h : BadP a b d) : Calls Try.prog 22 #[.int .i64 a, .int .i64 b, .int .i64 d] w fun e w' => e = .returned (.tuple #[.int .i64 0, .int .i64 0, .int .i64 1]) ∧ Below w.heap.size w w' := by
  rcases h with h | ⟨h1, h2⟩ | ⟨h1, h2, h3⟩
  all_goals
    go_enter Try.func22, Try.ntmps22
    go_wp2_with fail
    go_ret3
    exact ⟨rfl, Below.refl _ _⟩

set_option maxHeartbeats 8000000 in
theorem RPart_yes (a b d : Int) (w : World) (ha : 0 ≤ a) (ha2 : a ≤ 9223372036854775807) (hb : 0 ≤ b) (hb2 : b ≤ 9223372036854775807) (hd : 1 ≤ d) (hd2 : d ≤ 9223372036854775807) :
    Calls Try.prog 22 #[.int .i64 a, .int .i64 b, .int .i64 d] w fun e w' => e = .returned (.tuple #[.int .i64 (na (a * b / d)), .int .i64 (pr (a * b / d) (a * b % d)), .int .i64 (ne (a * b / d))]) ∧ Below w.heap.size w w' := by
  have C1 := Lib.hid (fun W => Of_any a W (by omega) ha2)
  have C2 := Lib.hid (fun W => Of_any b W (by omega) hb2)
  have C3 := Lib.hid (fun W => RMul_any a b W)
  have C4 := Lib.hid (fun W => Of_any d W (by omega) hd2)
  have hP0 : 0 ≤ a * b := Int.mul_nonneg ha hb
  have hP1 : a * b ≤ 85070591730234615865843651857942052864 := by
    have h : (a * b).natAbs ≤ 85070591730234615865843651857942052864 := by
      rw [Int.natAbs_mul]
      exact Nat.mul_le_mul (n₁ := a.natAbs) (m₁ := b.natAbs) (n₂ := 9223372036854775808) (m₂ := 9223372036854775808) (by omega) (by omega)
    omega
  obtain ⟨P, hP⟩ := named (a * b)
  rw [hP] at C3 hP0 hP1 ⊢
  obtain ⟨n, rfl⟩ := Int.eq_ofNat_of_zero_le hP0
  obtain ⟨y, rfl⟩ := Int.eq_ofNat_of_zero_le (show 0 ≤ d by omega)
  have HB := Lib.hid (show 1 ≤ y ∧ y ≤ 9223372036854775807 ∧ n ≤ 85070591730234615865843651857942052864 by omega)
  rw [← Int.natCast_ediv, ← Int.natCast_emod]
  obtain ⟨q, hqq⟩ := named ((n / y : Nat) : Int)
  obtain ⟨r, hrr⟩ := named ((n % y : Nat) : Int)
  rw [hqq, hrr]
  have HQR := Lib.hid (And.intro hqq hrr)
  obtain ⟨v1, hv1⟩ := named (na q)
  obtain ⟨v2, hv2⟩ := named (pr q r)
  obtain ⟨v3, hv3⟩ := named (ne q)
  rw [hv1, hv2, hv3]
  have HV := Lib.hid (And.intro hv1 (And.intro hv2 hv3))
  clear hqq hrr hv1 hv2 hv3
  unfold bg at C1 C2 C3 C4
  have d0 : ¬ (y : Int) < 1 := by omega
  have d1 : (1 : Int) ≤ (y : Int) := hd
  have d2 : 1 ≤ y := by omega
  clear hP hP0 hP1 ha2 hb2 hd2 hd
  go_enter Try.func22, Try.ntmps22
  go_wp2_with fail
  refine (C1.out _).mono ?_
  rintro e w1 ⟨rfl, hb⟩
  have B1 := Lib.hid hb; clear hb
  go_wp2_with fail
  refine (C2.out _).mono ?_
  rintro e w2 ⟨rfl, hb⟩
  have B2 := Lib.hid (B1.out.trans (hb.mono B1.out.size)); clear hb
  go_wp2_with fail
  refine (C3.out _).mono ?_
  rintro e w3 ⟨rfl, hb⟩
  have B3 := Lib.hid (B2.out.trans (hb.mono B2.out.size)); clear hb
  go_wp2_with fail
  refine (C4.out _).mono ?_
  rintro e w4 ⟨rfl, hb⟩
  have S4 : PSt w (w4.alloc (.cells (bl (y : Int)).toArray 46)) w3.heap.size w4.heap.size (n : Int) 0 0 (y : Int) := by
    have hbb := hb
    simp only [World.size_alloc] at hbb
    have v1 := ((VN.new w3 (bl (n : Int)).toArray 46).alloc (.cells (bl 0).toArray 46)).alloc (.cells (bl 0).toArray 46)
    have v2 := (VN.new (w3.alloc (.cells (bl (n : Int)).toArray 46)) (bl 0).toArray 46).alloc (.cells (bl 0).toArray 46)
    have v3 := VN.new ((w3.alloc (.cells (bl (n : Int)).toArray 46)).alloc (.cells (bl 0).toArray 46)) (bl 0).toArray 46
    rw [size_alloc'] at v2
    rw [size_alloc', size_alloc'] at v3
    refine ⟨(v1.bel hb).alloc _, (v2.bel hb).alloc _, (v3.bel hb).alloc _, VN.new w4 (bl (y : Int)).toArray 46, ?_, B3.out.size, ?_⟩
    · have s3 := B3.out.size
      have h1 := (((B3.out.alloc s3 (.cells (bl (n : Int)).toArray 46)).alloc (by simp; omega) (.cells (bl 0).toArray 46)).alloc (by simp; omega) (.cells (bl 0).toArray 46))
      have h2 := h1.trans (hb.mono h1.size)
      exact h2.alloc h2.size _
    · have := hb.size
      simp only [World.size_alloc] at this
      omega
  have HS := Lib.hid S4
  clear hb S4
  go_wp2_with fail
  obtain ⟨nb, hnb⟩ := named w3.heap.size
  obtain ⟨yb, hyb⟩ := named w4.heap.size
  rw [hnb, hyb] at HS
  simp only [hnb, hyb]
  clear hnb hyb
  go_loopw [13] (fun v wr => ∃ k : Nat, k ≤ 128 ∧ v = .int .i64 ((127 : Int) - (k : Int)) ∧ Hid (PSt w wr nb yb (n : Int) ((n / 2 ^ (128 - k) / y : Nat) : Int) ((n / 2 ^ (128 - k) % y : Nat) : Int) (y : Int))) (fun v _ => (intOf v + 1).toNat)
  · refine ⟨0, by omega, rfl, Lib.hid ?_⟩
    have hz : n / 2 ^ (128 - 0) = 0 := Nat.div_eq_of_lt (by have := HB.out.2.2; omega)
    rw [hz, Nat.zero_div, Nat.zero_mod]
    exact HS.out
  · obtain ⟨k, hk, rfl, hX⟩ := hrel
    clear HS
    by_cases hk2 : k < 128
    · obtain ⟨i, hi⟩ : ∃ i, i + k = 127 := ⟨127 - k, by omega⟩
      have hhalf := half_of n i
      have e1 : 128 - k = i + 1 := by omega
      have e2 : 128 - (k + 1) = i := by omega
      rw [e1] at hX
      obtain ⟨M, hM⟩ := named (n / 2 ^ (i + 1))
      rw [hM] at hX hhalf
      obtain ⟨bb, hbb⟩ := named (n / 2 ^ i % 2)
      have hb2 : bb ≤ 1 := by omega
      rw [hbb] at hhalf
      obtain ⟨Q, hQ⟩ := named ((M / y : Nat) : Int)
      obtain ⟨R, hR⟩ := named ((M % y : Nat) : Int)
      rw [hQ, hR] at hX
      have hRb : 0 ≤ R ∧ R < (y : Int) := ⟨by omega, by rw [← hR]; have := Nat.mod_lt M (show 0 < y by omega); omega⟩
      have hMd := Nat.div_add_mod M y
      obtain ⟨mq, hmq⟩ := named (M / y)
      obtain ⟨mr, hmr⟩ := named (M % y)
      rw [hmq] at hQ hMd
      rw [hmr] at hR hMd
      have yb2 := HB.out
      -- what the next quotient and rest are
      have lessQ : R + R + (bb : Int) < (y : Int) → (n / 2 ^ i / y : Nat) = Q + Q ∧ ((n / 2 ^ i % y : Nat) : Int) = R + R + (bb : Int) := by
        intro h
        have e : n / 2 ^ i = (mr + mr + bb) + y * (mq + mq) := by rw [hhalf, ← hMd, Nat.mul_add y mq mq]; omega
        constructor
        · rw [e, Nat.add_mul_div_left _ _ (by omega), Nat.div_eq_of_lt (by omega)]; omega
        · rw [e, Nat.add_mul_mod_self_left, Nat.mod_eq_of_lt (by omega)]; omega
      have moreQ : (y : Int) ≤ R + R + (bb : Int) → (n / 2 ^ i / y : Nat) = Q + Q + 1 ∧ ((n / 2 ^ i % y : Nat) : Int) = R + R + (bb : Int) + -(y : Int) := by
        intro h
        have e : n / 2 ^ i = (mr + mr + bb - y) + y * (mq + mq + 1) := by rw [hhalf, ← hMd, Nat.mul_add y (mq + mq) 1, Nat.mul_add y mq mq]; omega
        constructor
        · rw [e, Nat.add_mul_div_left _ _ (by omega), Nat.div_eq_of_lt (by omega)]; omega
        · rw [e, Nat.add_mul_mod_self_left, Nat.mod_eq_of_lt (by omega)]; omega
      obtain ⟨j, hj⟩ := named (i / 32)
      obtain ⟨m, hm⟩ := named (i % 32)
      have hj4 : j < 4 := by omega
      have hm32 : m < 32 := by omega
      have hbit := bit_of n j m hm32
      rw [show 32 * j + m = i by omega, hbb] at hbit
      have i1 : IntKind.i64.wrap ((127 - (k : Int)).tdiv 32) = (j : Int) := by rw [Int.tdiv_eq_ediv_of_nonneg (by omega), IntKind.wrap_i64]; omega
      have i2 : (127 - (k : Int)).tmod 32 = (m : Int) := by rw [Int.tmod_eq_emod_of_nonneg (by omega)]; omega
      have dcell := hX.out.n.c j _ (bl_at _ j hj4)
      rw [dgn_nat n j hj4] at dcell
      have i3 : (((n / 2 ^ (32 * j) % 2 ^ 32 : Nat) : Int) / 2 ^ m).tmod 2 = (bb : Int) := by
        rw [show (2 : Int) ^ m = ((2 ^ m : Nat) : Int) by simp, ← Int.natCast_ediv, Int.tmod_eq_emod_of_nonneg (Int.natCast_nonneg _), ← hbit]; rfl
      have hmul := two_dg R (bb : Int) (by omega)
      have hbb2 := Lib.hid (show 0 ≤ (bb : Int) ∧ (bb : Int) ≤ 1 by omega)
      obtain ⟨X, hXX⟩ := named (R + R)
      obtain ⟨Z, hZZ⟩ := named (R + R + (bb : Int))
      obtain ⟨T, hTT⟩ := named (Q + Q)
      have A1 := Lib.hid (fun W => RAdd_any R R W)
      have A2 := Lib.hid (fun W => RAdd_any Q Q W)
      have A3 := Lib.hid (fun W => Less_any Z (y : Int) W (by omega) (by omega))
      have A4 := Lib.hid (fun W => RNeg_any (y : Int) W)
      have A5 := Lib.hid (fun W => RAdd_any Z (-(y : Int)) W)
      have A6 := Lib.hid (fun W => RAdd_any T 1 W)
      rw [hXX] at A1; rw [hTT] at A2
      have hP : ∀ W, PSt w W nb yb (n : Int) T X (y : Int) → PSt w (W.setCell ⟨nb + 1 + 1, 0, none⟩ (.int .u64 (dg0 Z))) nb yb (n : Int) T Z (y : Int) := by
        intro W h
        have g := PSt.bit (R := R) (by rw [hXX]; exact h) (bb : Int) hbb2.out
        rw [hZZ] at g; exact g
      have HP := Lib.hid hP
      clear hP
      have key := hmul.1
      rw [hZZ] at key lessQ moreQ
      rw [hXX] at key
      have HX := Lib.hid hX.out
      have HL := Lib.hid (And.intro lessQ moreQ)
      have HE := Lib.hid (And.intro e2 hZZ)
      have HT := Lib.hid hTT
      have HZX := Lib.hid (show X + (bb : Int) = Z by rw [← hXX]; exact hZZ)
      rw [bg_one] at A6
      unfold bg at A1 A2 A3 A4 A5 A6
      have i4 : (4 : Nat) = 4 := rfl
      obtain ⟨dgj, hdgj⟩ := named ((n / 2 ^ (32 * j) % 2 ^ 32 : Nat) : Int)
      rw [hdgj] at i3 dcell
      have DC := Lib.hid (show ∀ W, PSt w W nb yb (n : Int) T X (y : Int) → W.cell? ⟨nb, j, none⟩ = some (.int .u64 dgj) from fun W h => by rw [← hdgj, ← dgn_nat n j hj4]; exact h.n.c j _ (bl_at _ j hj4))
      have kpos : (k : Int) ≤ 127 := by omega
      clear hX hhalf hM hbb hQ hR hRb hMd hmq hmr yb2 lessQ moreQ hj hm hbit dcell hmul hXX hZZ hTT e1 e2 hdgj i4 hb2 hi hk
      have c0 := HX.out.r.c 0 _ rfl
      have c1 := HX.out.r.c 1 _ rfl
      have c2 := HX.out.r.c 2 _ rfl
      have c3 := HX.out.r.c 3 _ rfl
      have cz0 := HX.out.r.z 0
      have cz1 := HX.out.r.z 1
      have cz2 := HX.out.r.z 2
      have cz3 := HX.out.r.z 3
      go_wp2_with fail
      refine (A1.out wr).mono ?_
      rintro e w5 ⟨rfl, hb5⟩
      have H5 := Lib.hid (HX.out.over hb5 rfl rfl rfl rfl)
      clear hb5 c0 c1 c2 c3 cz0 cz1 cz2 cz3
      have c0 := H5.out.r.c 0 _ rfl
      have c1 := H5.out.r.c 1 _ rfl
      have c2 := H5.out.r.c 2 _ rfl
      have c3 := H5.out.r.c 3 _ rfl
      have cz0 := H5.out.r.z 0
      have cz1 := H5.out.r.z 1
      have cz2 := H5.out.r.z 2
      have cz3 := H5.out.r.z 3
      go_upto_region 10 with fail
      rw [show (((w5.setCell ⟨nb + 1 + 1, 0, none⟩ (.int .u64 (dg0 X))).setCell ⟨nb + 1 + 1, 1, none⟩ (.int .u64 (dg1 X))).setCell ⟨nb + 1 + 1, 2, none⟩ (.int .u64 (dg2 X))).setCell ⟨nb + 1 + 1, 3, none⟩ (.int .u64 (dg3 X)) = put4 w5 (nb + 1 + 1) X from rfl]
      have H6 := H5.out.putR X
      clear c0 c1 c2 c3 cz0 cz1 cz2 cz3
      generalize put4 w5 (nb + 1 + 1) X = w6 at H6 ⊢
      have H6 := Lib.hid H6
      have c0 := H6.out.q.c 0 _ rfl
      have c1 := H6.out.q.c 1 _ rfl
      have c2 := H6.out.q.c 2 _ rfl
      have c3 := H6.out.q.c 3 _ rfl
      have cz0 := H6.out.q.z 0
      have cz1 := H6.out.q.z 1
      have cz2 := H6.out.q.z 2
      have cz3 := H6.out.q.z 3
      go_wp2_with fail
      refine (A2.out w6).mono ?_
      rintro e w7 ⟨rfl, hb7⟩
      have H7 := Lib.hid (H6.out.over hb7 rfl rfl rfl rfl)
      clear hb7 c0 c1 c2 c3 cz0 cz1 cz2 cz3
      have c0 := H7.out.q.c 0 _ rfl
      have c1 := H7.out.q.c 1 _ rfl
      have c2 := H7.out.q.c 2 _ rfl
      have c3 := H7.out.q.c 3 _ rfl
      have cz0 := H7.out.q.z 0
      have cz1 := H7.out.q.z 1
      have cz2 := H7.out.q.z 2
      have cz3 := H7.out.q.z 3
      go_upto_region 11 with fail
      rw [show (((w7.setCell ⟨nb + 1, 0, none⟩ (.int .u64 (dg0 T))).setCell ⟨nb + 1, 1, none⟩ (.int .u64 (dg1 T))).setCell ⟨nb + 1, 2, none⟩ (.int .u64 (dg2 T))).setCell ⟨nb + 1, 3, none⟩ (.int .u64 (dg3 T)) = put4 w7 (nb + 1) T from rfl]
      have H8 := H7.out.putQ T
      clear c0 c1 c2 c3 cz0 cz1 cz2 cz3
      generalize put4 w7 (nb + 1) T = w8 at H8 ⊢
      have dc := DC.out w8 H8
      have H8 := Lib.hid H8
      have c0 := H8.out.r.c 0 _ rfl
      have cz0 := H8.out.r.z 0
      go_cut [] from 35 to 67 (fun wz => Hid (PSt w wz nb yb (n : Int) T Z (y : Int)))
      case first =>
        go_region
        all_goals
          go_wp2_with fail
          go_meet
          case rel => exact Lib.hid ((HP.out _ H8.out).same rfl rfl rfl rfl)
      case rest =>
        clear c0 cz0 dc i1 i2 i3 key
        have H8 := hcut
        clear hcut
        by_cases hlt : Z < (y : Int)
        · rw [decide_eq_true hlt] at A3
          have HQ := Lib.hid (HL.out.1 hlt)
          clear hlt
          have c0 := H8.out.r.c 0 _ rfl
          have c1 := H8.out.r.c 1 _ rfl
          have c2 := H8.out.r.c 2 _ rfl
          have c3 := H8.out.r.c 3 _ rfl
          have f0 := H8.out.y.c 0 _ rfl
          have f1 := H8.out.y.c 1 _ rfl
          have f2 := H8.out.y.c 2 _ rfl
          have f3 := H8.out.y.c 3 _ rfl
          go_wp2_with fail
          refine (A3.out wc).mono ?_
          rintro e w9 ⟨rfl, hb9⟩
          have H9 := Lib.hid (H8.out.over hb9 rfl rfl rfl rfl)
          clear hb9 c0 c1 c2 c3 f0 f1 f2 f3
          go_wp2_with fail
          go_roundw
          case rel => exact ⟨k + 1, by omega, by go_num, Lib.hid (by rw [HE.out.1, HQ.out.1, HQ.out.2, HT.out]; exact H9.out)⟩
          case measure => simp [intOf]; omega
        · rw [decide_eq_false hlt] at A3
          have HQ := Lib.hid (HL.out.2 (by omega))
          clear hlt
          have c0 := H8.out.r.c 0 _ rfl
          have c1 := H8.out.r.c 1 _ rfl
          have c2 := H8.out.r.c 2 _ rfl
          have c3 := H8.out.r.c 3 _ rfl
          have f0 := H8.out.y.c 0 _ rfl
          have f1 := H8.out.y.c 1 _ rfl
          have f2 := H8.out.y.c 2 _ rfl
          have f3 := H8.out.y.c 3 _ rfl
          go_wp2_with fail
          refine (A3.out wc).mono ?_
          rintro e w9 ⟨rfl, hb9⟩
          have H9 := Lib.hid (H8.out.over hb9 rfl rfl rfl rfl)
          clear hb9 c0 c1 c2 c3 f0 f1 f2 f3
          have c0 := H9.out.r.c 0 _ rfl
          have c1 := H9.out.r.c 1 _ rfl
          have c2 := H9.out.r.c 2 _ rfl
          have c3 := H9.out.r.c 3 _ rfl
          have f0 := H9.out.y.c 0 _ rfl
          have f1 := H9.out.y.c 1 _ rfl
          have f2 := H9.out.y.c 2 _ rfl
          have f3 := H9.out.y.c 3 _ rfl
          go_upto_region 13 with fail
          go_cut [] from 35 to 67 (fun wz => Hid (PSt w wz nb yb (n : Int) T (Z + -(y : Int)) (y : Int)))
          case first =>
            go_region_with (first
              | (go_at_call 23
                 with_reducible refine (A5.out _).mono ?_
                 rintro e w11 ⟨rfl, hb11⟩
                 have H11 := Lib.hid (H10.out.over hb11 rfl rfl rfl rfl)
                 have y0 := H11.out.r.c 0 _ rfl
                 have y1 := H11.out.r.c 1 _ rfl
                 have y2 := H11.out.r.c 2 _ rfl
                 have y3 := H11.out.r.c 3 _ rfl
                 have z0 := H11.out.r.z 0
                 have z1 := H11.out.r.z 1
                 have z2 := H11.out.r.z 2
                 have z3 := H11.out.r.z 3
                 clear hb11)
              | (go_at_call 36
                 with_reducible refine (A4.out _).mono ?_
                 rintro e w10 ⟨rfl, hb10⟩
                 have H10 := Lib.hid (H9.out.over hb10 rfl rfl rfl rfl)
                 have x0 := H10.out.r.c 0 _ rfl
                 have x1 := H10.out.r.c 1 _ rfl
                 have x2 := H10.out.r.c 2 _ rfl
                 have x3 := H10.out.r.c 3 _ rfl
                 clear hb10))
            all_goals
              have HZ := Lib.hid (H11.out.putR (Z + -(y : Int)))
              clear y0 y1 y2 y3 z0 z1 z2 z3
              go_wp2_with fail
              go_meet
              case rel => exact HZ
          case rest =>
            have H12 := hcut
            clear hcut c0 c1 c2 c3 f0 f1 f2 f3
            have c0 := H12.out.q.c 0 _ rfl
            have c1 := H12.out.q.c 1 _ rfl
            have c2 := H12.out.q.c 2 _ rfl
            have c3 := H12.out.q.c 3 _ rfl
            go_wp2_with fail
            refine (A6.out _).mono ?_
            rintro e w13 ⟨rfl, hb13⟩
            have H13 := Lib.hid (H12.out.over hb13 rfl rfl rfl rfl)
            clear hb13 c0 c1 c2 c3
            have c0 := H13.out.q.c 0 _ rfl
            have c1 := H13.out.q.c 1 _ rfl
            have c2 := H13.out.q.c 2 _ rfl
            have c3 := H13.out.q.c 3 _ rfl
            have cz0 := H13.out.q.z 0
            have cz1 := H13.out.q.z 1
            have cz2 := H13.out.q.z 2
            have cz3 := H13.out.q.z 3
            have HZ := Lib.hid (H13.out.putQ (T + 1))
            go_wp2_with fail
            go_roundw
            case rel => exact ⟨k + 1, by omega, by go_num, Lib.hid (by rw [HE.out.1, HQ.out.1, HQ.out.2, HT.out]; exact HZ.out)⟩
            case measure => simp [intOf]; omega
    · obtain rfl : k = 128 := by omega
      have hN := hX.out
      rw [Nat.sub_self, Nat.pow_zero, Nat.div_one] at hN
      have hqq := HQR.out.1
      have hrr := HQR.out.2
      have hmod := Nat.mod_lt n (show 0 < y by omega)
      have hle := Nat.div_le_self n y
      have hbd := HB.out
      have hq0 := Int.natCast_nonneg (n / y)
      rw [hqq] at hq0
      have r0 : 0 ≤ r ∧ r ≤ 9223372036854775807 := by omega
      have q0 : 0 ≤ q ∧ q ≤ 85070591730234615865843651857942052864 := by omega
      rw [hqq, hrr] at hN
      have HN := Lib.hid hN
      have ri : isn r = true := (isn_iff r).2 (by omega)
      have S1 := Lib.hid (fun W => Small_any q W (by omega) (by omega))
      have S2 := Lib.hid (fun W => Small_any r W (by omega) (by omega))
      rw [na_t ri] at S2
      unfold bg at S1 S2
      have c0 := HN.out.q.c 0 _ rfl
      have c1 := HN.out.q.c 1 _ rfl
      have c2 := HN.out.q.c 2 _ rfl
      have c3 := HN.out.q.c 3 _ rfl
      cases hi : isn q with
      | true =>
        have s1 : pr q r = r := by unfold pr; rw [hi]; rfl
        rw [hi, na_t hi] at S1
        obtain rfl : v1 = q := by rw [← na_t hi]; exact HV.out.1.symm
        obtain rfl : v2 = r := by rw [← s1]; exact HV.out.2.1.symm
        obtain rfl : v3 = 0 := by rw [← ne_t hi]; exact HV.out.2.2.symm
        have q1 : ¬ v1 < 0 := by omega
        clear hX hN hqq hrr hmod hle hbd hq0 r0 q0 ri hi s1 hk hk2
        go_wp2_with fail
        refine (S1.out wr).mono ?_
        rintro e w5 ⟨rfl, hb5⟩
        have H5 := Lib.hid (HN.out.over hb5 rfl rfl rfl rfl)
        clear hb5 c0 c1 c2 c3
        have c0 := H5.out.r.c 0 _ rfl
        have c1 := H5.out.r.c 1 _ rfl
        have c2 := H5.out.r.c 2 _ rfl
        have c3 := H5.out.r.c 3 _ rfl
        go_wp2_with fail
        refine (S2.out w5).mono ?_
        rintro e w6 ⟨rfl, hb6⟩
        have H6 := Lib.hid (H5.out.over hb6 rfl rfl rfl rfl)
        clear hb6 c0 c1 c2 c3
        go_wp2_with fail
        go_ret3
        exact ⟨rfl, H6.out.D⟩
      | false =>
        have s1 : pr q r = 0 := by unfold pr; rw [hi]; rfl
        rw [hi, na_f hi] at S1
        obtain rfl : v1 = 0 := by rw [← na_f hi]; exact HV.out.1.symm
        obtain rfl : v2 = 0 := by rw [← s1]; exact HV.out.2.1.symm
        obtain rfl : v3 = 30 := by rw [← ne_f hi]; exact HV.out.2.2.symm
        clear hX hN hqq hrr hmod hle hbd hq0 r0 q0 ri hi s1 hk hk2
        go_wp2_with fail
        refine (S1.out wr).mono ?_
        rintro e w5 ⟨rfl, hb5⟩
        have H5 := Lib.hid (HN.out.over hb5 rfl rfl rfl rfl)
        clear hb5 c0 c1 c2 c3
        go_wp2_with fail
        go_ret3
        exact ⟨rfl, H5.out.D⟩
end Go.Proofs.Ytbiofjddclbncaa.Mo
