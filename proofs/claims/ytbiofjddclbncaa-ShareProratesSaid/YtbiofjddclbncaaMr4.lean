import Derived.Test.YtbiofjddclbncaaMr3
namespace Go.Proofs.Ytbiofjddclbncaa.Mo
set_option linter.unusedVariables false
set_option linter.unusedSimpArgs false
open Go.RowKit Mem
set_option maxRecDepth 8000

def lin (o0 o1 o2 o3 : Int) : Int := o0 + o1 * 4294967296 + o2 * 18446744073709551616 + o3 * 79228162514264337593543950336
/-- The products that have gone in ahead of digit k of row i. -/
def rowS (p : Nat → Nat → Int) (i : Nat) : Nat → Int
  | 0 => 0
  | k + 1 => rowS p i k + p i k * 4294967296 ^ (i + k)
def allS (p : Nat → Nat → Int) : Nat → Int
  | 0 => 0
  | i + 1 => allS p i + rowS p i (4 - i)
theorem mul_round (p o c : Int) (hp : 0 ≤ p ∧ p ≤ 18446744065119617025) (ho : 0 ≤ o ∧ o ≤ 4294967295) (hc : 0 ≤ c ∧ c ≤ 4294967295) :
    ∃ x c' : Int, (IntKind.u64.wrap (IntKind.u64.wrap (IntKind.u64.wrap p + o) + c)).tmod 4294967296 = x ∧ IntKind.u64.wrap (IntKind.u64.wrap (IntKind.u64.wrap p + o) + c) / 4294967296 = c' ∧ (0 ≤ x ∧ x ≤ 4294967295) ∧ (0 ≤ c' ∧ c' ≤ 4294967295) ∧ p + o + c = x + 4294967296 * c' := by
  have e : IntKind.u64.wrap (IntKind.u64.wrap (IntKind.u64.wrap p + o) + c) = p + o + c := by simp only [IntKind.wrap_u64]; omega
  rw [e, Int.tmod_eq_emod_of_nonneg (by omega)]
  exact ⟨_, _, rfl, rfl, by omega, by omega, by omega⟩
/-- A digit and a carry more. -/
theorem mul_step {L L' o x c c' p P S t : Int} (h : L + c * P + 340282366920938463463374607431768211456 * t = S) (hL : L' = L + (x - o) * P) (hs : p + o + c = x + 4294967296 * c') : L' + c' * (P * 4294967296) + 340282366920938463463374607431768211456 * t = S + p * P := by
  have e : c' * (P * 4294967296) = (4294967296 * c') * P := by grind
  have e2 : 4294967296 * c' = p + o + c - x := by omega
  rw [e, e2, hL]
  grind
theorem prod_le {a b : Int} (ha : 0 ≤ a ∧ a ≤ 4294967295) (hb : 0 ≤ b ∧ b ≤ 4294967295) : 0 ≤ a * b ∧ a * b ≤ 18446744065119617025 := by
  refine ⟨Int.mul_nonneg ha.1 hb.1, ?_⟩
  have h : (a * b).natAbs ≤ 18446744065119617025 := by
    rw [Int.natAbs_mul]
    exact Nat.mul_le_mul (n₁ := a.natAbs) (m₁ := b.natAbs) (n₂ := 4294967295) (m₂ := 4294967295) (by omega) (by omega)
  have := Int.mul_nonneg ha.1 hb.1
  omega
/-- The product's digits of two numbers' digits. -/
def pq (a0 a1 a2 a3 b0 b1 b2 b3 : Int) : Nat → Nat → Int := fun i k => (match i with | 0 => a0 | 1 => a1 | 2 => a2 | _ => a3) * (match k with | 0 => b0 | 1 => b1 | 2 => b2 | _ => b3)
theorem mul_all (a0 a1 a2 a3 b0 b1 b2 b3 : Int) : ∃ t, lin a0 a1 a2 a3 * lin b0 b1 b2 b3 = allS (pq a0 a1 a2 a3 b0 b1 b2 b3) 4 + 340282366920938463463374607431768211456 * t := by
  refine ⟨(a1*b3+a2*b2+a3*b1) + (a2*b3+a3*b2) * 4294967296 + a3*b3 * 18446744073709551616, ?_⟩
  have e : allS (pq a0 a1 a2 a3 b0 b1 b2 b3) 4 = a0 * b0 + a0 * b1 * 4294967296 + a0 * b2 * 18446744073709551616 + a0 * b3 * 79228162514264337593543950336 + (a1 * b0 * 4294967296 + a1 * b1 * 18446744073709551616 + a1 * b2 * 79228162514264337593543950336) + (a2 * b0 * 18446744073709551616 + a2 * b1 * 79228162514264337593543950336) + a3 * b0 * 79228162514264337593543950336 := by
    simp [allS, rowS, pq]
  rw [e]
  unfold lin
  grind
theorem lin_mul (U V : Int) : lin (dg0 U) (dg1 U) (dg2 U) (dg3 U) * lin (dg0 V) (dg1 V) (dg2 V) (dg3 V) % 340282366920938463463374607431768211456 = U * V % 340282366920938463463374607431768211456 := by
  have hU := dg_sum U
  have hV := dg_sum V
  unfold lin
  rw [hU, hV, ← Int.mul_emod]

/-- The state of the product under way. -/
structure MSt (w wr : World) (a0 a1 a2 a3 b0 b1 b2 b3 o0 o1 o2 o3 : Int) : Prop where
  O : VN wr (w.heap.size + 1 + 1 + 1) [.int .u64 o0, .int .u64 o1, .int .u64 o2, .int .u64 o3]
  A : VN wr w.heap.size [.int .u64 a0, .int .u64 a1, .int .u64 a2, .int .u64 a3]
  B : VN wr (w.heap.size + 1) [.int .u64 b0, .int .u64 b1, .int .u64 b2, .int .u64 b3]
  C : VN wr (w.heap.size + 1 + 1) [.int .u64 0, .int .u64 0, .int .u64 0, .int .u64 0]
  D : Below w.heap.size w wr
  h0 : 0 ≤ o0 ∧ o0 ≤ 4294967295
  h1 : 0 ≤ o1 ∧ o1 ≤ 4294967295
  h2 : 0 ≤ o2 ∧ o2 ≤ 4294967295
  h3 : 0 ≤ o3 ∧ o3 ≤ 4294967295
variable {w wr : World} {a0 a1 a2 a3 b0 b1 b2 b3 o0 o1 o2 o3 : Int}
theorem MSt.drewN (h : MSt w wr a0 a1 a2 a3 b0 b1 b2 b3 o0 o1 o2 o3) (n : Nat) : MSt w (wr.drewN n) a0 a1 a2 a3 b0 b1 b2 b3 o0 o1 o2 o3 :=
  ⟨h.O.drewN n, h.A.drewN n, h.B.drewN n, h.C.drewN n, below_drewN h.D n, h.h0, h.h1, h.h2, h.h3⟩
theorem MSt.set0 (h : MSt w wr a0 a1 a2 a3 b0 b1 b2 b3 o0 o1 o2 o3) (x : Int) (hx : 0 ≤ x ∧ x ≤ 4294967295) : MSt w (wr.setCell ⟨w.heap.size + 1 + 1 + 1, 0, none⟩ (.int .u64 x)) a0 a1 a2 a3 b0 b1 b2 b3 x o1 o2 o3 :=
  ⟨h.O.set 0 (by simp) _, h.A.other (p := ⟨w.heap.size + 1 + 1 + 1, 0, none⟩) (by simp; try omega) _, h.B.other (p := ⟨w.heap.size + 1 + 1 + 1, 0, none⟩) (by simp; try omega) _, h.C.other (p := ⟨w.heap.size + 1 + 1 + 1, 0, none⟩) (by simp; try omega) _, bel_set h.D (by omega) _, hx, h.h1, h.h2, h.h3⟩
theorem MSt.set1 (h : MSt w wr a0 a1 a2 a3 b0 b1 b2 b3 o0 o1 o2 o3) (x : Int) (hx : 0 ≤ x ∧ x ≤ 4294967295) : MSt w (wr.setCell ⟨w.heap.size + 1 + 1 + 1, 1, none⟩ (.int .u64 x)) a0 a1 a2 a3 b0 b1 b2 b3 o0 x o2 o3 :=
  ⟨h.O.set 1 (by simp) _, h.A.other (p := ⟨w.heap.size + 1 + 1 + 1, 1, none⟩) (by simp; try omega) _, h.B.other (p := ⟨w.heap.size + 1 + 1 + 1, 1, none⟩) (by simp; try omega) _, h.C.other (p := ⟨w.heap.size + 1 + 1 + 1, 1, none⟩) (by simp; try omega) _, bel_set h.D (by omega) _, h.h0, hx, h.h2, h.h3⟩
theorem MSt.set2 (h : MSt w wr a0 a1 a2 a3 b0 b1 b2 b3 o0 o1 o2 o3) (x : Int) (hx : 0 ≤ x ∧ x ≤ 4294967295) : MSt w (wr.setCell ⟨w.heap.size + 1 + 1 + 1, 2, none⟩ (.int .u64 x)) a0 a1 a2 a3 b0 b1 b2 b3 o0 o1 x o3 :=
  ⟨h.O.set 2 (by simp) _, h.A.other (p := ⟨w.heap.size + 1 + 1 + 1, 2, none⟩) (by simp; try omega) _, h.B.other (p := ⟨w.heap.size + 1 + 1 + 1, 2, none⟩) (by simp; try omega) _, h.C.other (p := ⟨w.heap.size + 1 + 1 + 1, 2, none⟩) (by simp; try omega) _, bel_set h.D (by omega) _, h.h0, h.h1, hx, h.h3⟩
theorem MSt.set3 (h : MSt w wr a0 a1 a2 a3 b0 b1 b2 b3 o0 o1 o2 o3) (x : Int) (hx : 0 ≤ x ∧ x ≤ 4294967295) : MSt w (wr.setCell ⟨w.heap.size + 1 + 1 + 1, 3, none⟩ (.int .u64 x)) a0 a1 a2 a3 b0 b1 b2 b3 o0 o1 o2 x :=
  ⟨h.O.set 3 (by simp) _, h.A.other (p := ⟨w.heap.size + 1 + 1 + 1, 3, none⟩) (by simp; try omega) _, h.B.other (p := ⟨w.heap.size + 1 + 1 + 1, 3, none⟩) (by simp; try omega) _, h.C.other (p := ⟨w.heap.size + 1 + 1 + 1, 3, none⟩) (by simp; try omega) _, bel_set h.D (by omega) _, h.h0, h.h1, h.h2, hx⟩

set_option maxHeartbeats 8000000 in
theorem RMul_any (U V : Int) (w : World) : Calls Try.prog 24 #[bg U, bg V] w fun e w' => e = .returned (bg (U * V)) ∧ Below w.heap.size w w' := by
  have bU := dg_bd U
  have bV := dg_bd V
  have fin : ∀ o0 o1 o2 o3 t : Int, (0 ≤ o0 ∧ o0 ≤ 4294967295) → (0 ≤ o1 ∧ o1 ≤ 4294967295) → (0 ≤ o2 ∧ o2 ≤ 4294967295) → (0 ≤ o3 ∧ o3 ≤ 4294967295) → lin o0 o1 o2 o3 + 340282366920938463463374607431768211456 * t = allS (pq (dg0 U) (dg1 U) (dg2 U) (dg3 U) (dg0 V) (dg1 V) (dg2 V) (dg3 V)) 4 → bg (U * V) = .agg #[.int .u64 o0, .int .u64 o1, .int .u64 o2, .int .u64 o3] := by
    intro o0 o1 o2 o3 t h0 h1 h2 h3 h
    obtain ⟨t', ht⟩ := mul_all (dg0 U) (dg1 U) (dg2 U) (dg3 U) (dg0 V) (dg1 V) (dg2 V) (dg3 V)
    have hm := lin_mul U V
    have hl : lin o0 o1 o2 o3 = o0 + o1 * 4294967296 + o2 * 18446744073709551616 + o3 * 79228162514264337593543950336 := rfl
    obtain ⟨e0, e1, e2, e3⟩ := dg_of (V := U * V) h0 h1 h2 h3 (by rw [← hl]; omega)
    unfold bg; rw [← e0, ← e1, ← e2, ← e3]
  have HF := Lib.hid fin
  clear fin
  obtain ⟨R, hR⟩ := named (bg (U * V))
  rw [hR] at HF ⊢
  unfold bg
  clear hR
  generalize dg0 U = a0 at *
  generalize dg1 U = a1 at *
  generalize dg2 U = a2 at *
  generalize dg3 U = a3 at *
  generalize dg0 V = b0 at *
  generalize dg1 V = b1 at *
  generalize dg2 V = b2 at *
  generalize dg3 V = b3 at *
  have HU := Lib.hid bU
  have HV := Lib.hid bV
  clear bU bV
  have start : MSt w ((((w.alloc (.cells #[.int .u64 a0, .int .u64 a1, .int .u64 a2, .int .u64 a3] 46)).alloc (.cells #[.int .u64 b0, .int .u64 b1, .int .u64 b2, .int .u64 b3] 46)).alloc (.cells #[.int .u64 0, .int .u64 0, .int .u64 0, .int .u64 0] 46)).alloc (.cells #[.int .u64 0, .int .u64 0, .int .u64 0, .int .u64 0] 46)) a0 a1 a2 a3 b0 b1 b2 b3 0 0 0 0 := by
    refine ⟨?_, ?_, ?_, ?_, ?_, by omega, by omega, by omega, by omega⟩
    · have h := VN.new (((w.alloc (.cells #[.int .u64 a0, .int .u64 a1, .int .u64 a2, .int .u64 a3] 46)).alloc (.cells #[.int .u64 b0, .int .u64 b1, .int .u64 b2, .int .u64 b3] 46)).alloc (.cells #[.int .u64 0, .int .u64 0, .int .u64 0, .int .u64 0] 46)) #[.int .u64 0, .int .u64 0, .int .u64 0, .int .u64 0] 46
      rw [size_alloc', size_alloc', size_alloc'] at h; exact h
    · exact (((VN.new w #[.int .u64 a0, .int .u64 a1, .int .u64 a2, .int .u64 a3] 46).alloc _).alloc _).alloc _
    · have h := (((VN.new (w.alloc (.cells #[.int .u64 a0, .int .u64 a1, .int .u64 a2, .int .u64 a3] 46)) #[.int .u64 b0, .int .u64 b1, .int .u64 b2, .int .u64 b3] 46).alloc (.cells #[.int .u64 0, .int .u64 0, .int .u64 0, .int .u64 0] 46)).alloc (.cells #[.int .u64 0, .int .u64 0, .int .u64 0, .int .u64 0] 46))
      rw [size_alloc'] at h; exact h
    · have h := ((VN.new ((w.alloc (.cells #[.int .u64 a0, .int .u64 a1, .int .u64 a2, .int .u64 a3] 46)).alloc (.cells #[.int .u64 b0, .int .u64 b1, .int .u64 b2, .int .u64 b3] 46)) #[.int .u64 0, .int .u64 0, .int .u64 0, .int .u64 0] 46).alloc (.cells #[.int .u64 0, .int .u64 0, .int .u64 0, .int .u64 0] 46))
      rw [size_alloc', size_alloc'] at h; exact h
    · exact ((((Below.refl _ _).alloc (Nat.le_refl _) _).alloc (by simp) _).alloc (by simp; omega) _).alloc (by simp; omega) _
  have HS := Lib.hid start
  clear start
  obtain ⟨p, hp⟩ := named (pq a0 a1 a2 a3 b0 b1 b2 b3)
  have HP := Lib.hid hp
  rw [hp] at HF
  clear hp
  go_enter Try.func24, Try.ntmps24
  go_wp2_with fail
  go_loopw [6] (fun v wr => ∃ i : Nat, i ≤ 4 ∧ v = .int .i64 i ∧ Hid (∃ o0 o1 o2 o3 t, MSt w wr a0 a1 a2 a3 b0 b1 b2 b3 o0 o1 o2 o3 ∧ lin o0 o1 o2 o3 + 340282366920938463463374607431768211456 * t = allS p i)) (fun v _ => 4 - (intOf v).toNat)
  · exact ⟨0, by omega, rfl, Lib.hid ⟨0, 0, 0, 0, 0, HS.out, by simp [lin, allS]⟩⟩
  · obtain ⟨i, hi, rfl, hX⟩ := hrel
    have cases : i = 0 ∨ i = 1 ∨ i = 2 ∨ i = 3 ∨ i = 4 := by omega
    clear hi HS
    obtain ⟨wo, rfl⟩ : ∃ wo : World, wo = wr := ⟨_, rfl⟩
    rcases cases with rfl | rfl | rfl | rfl | rfl
    · -- row 0
      go_wp2_with fail
      go_loopw [7, 8] (fun c v wr => ∃ k : Nat, k ≤ 4 ∧ v = .int .i64 k ∧ ∃ cc, c = .int .u64 cc ∧ Hid (0 ≤ cc ∧ cc ≤ 4294967295) ∧ Hid (∃ o0 o1 o2 o3 t, MSt w wr a0 a1 a2 a3 b0 b1 b2 b3 o0 o1 o2 o3 ∧ lin o0 o1 o2 o3 + cc * 4294967296 ^ (0 + k) + 340282366920938463463374607431768211456 * t = allS p 0 + rowS p 0 k)) (fun _ v _ => 4 - (intOf v).toNat)
      · obtain ⟨o0, o1, o2, o3, t, hM, ht⟩ := hX.out
        exact ⟨0, by omega, rfl, 0, rfl, Lib.hid (by omega), Lib.hid ⟨o0, o1, o2, o3, t, hM, by rw [Int.zero_mul, Int.add_zero, ht]; simp [rowS]⟩⟩
      · obtain ⟨k, hk, rfl, cc, rfl, hcc, hY⟩ := hrel
        clear hX
        obtain ⟨o0, o1, o2, o3, t, hM, ht⟩ := hY.out
        clear hY
        have HM := Lib.hid hM
        have HT := Lib.hid ht
        clear hM ht
        have cases : k = 0 ∨ k = 1 ∨ k = 2 ∨ k = 3 ∨ k = 4 := by omega
        clear hk
        rcases cases with rfl | rfl | rfl | rfl | rfl
        · -- digit 0
          obtain ⟨x, c', e1, e2, hx, hc', he⟩ := mul_round (a0 * b0) o0 cc (prod_le HU.out.1 HV.out.1) HM.out.h0 hcc.out
          have HE := Lib.hid (And.intro hx (And.intro hc' he))
          clear hx hc' he
          have f1 := HM.out.A.c 0 _ rfl
          have f2 := HM.out.B.c 0 _ rfl
          have f3 := HM.out.O.c 0 _ rfl
          have z3 := HM.out.O.z 0
          go_wp2_with fail
          go_quiet (fail)
          rename_i nq
          go_wp2_with fail
          go_roundw
          case rel =>
            refine ⟨1, by omega, rfl, c', rfl, Lib.hid HE.out.2.1, Lib.hid ⟨x, o1, o2, o3, t, (HM.out.drewN nq).set0 x HE.out.1, ?_⟩⟩
            have h := mul_step (P := 4294967296 ^ (0 + 0)) (p := a0 * b0) HT.out (show lin x o1 o2 o3 = lin o0 o1 o2 o3 + (x - o0) * 4294967296 ^ (0 + 0) by simp [lin]; omega) HE.out.2.2
            have hp : p 0 0 = a0 * b0 := by rw [← HP.out]; rfl
            rw [show allS p 0 + rowS p 0 (0 + 1) = allS p 0 + rowS p 0 0 + p 0 0 * 4294967296 ^ (0 + 0) by show _ + (rowS p 0 0 + _) = _; rw [Int.add_assoc], hp]
            exact h
          case measure => simp [intOf]
        · -- digit 1
          obtain ⟨x, c', e1, e2, hx, hc', he⟩ := mul_round (a0 * b1) o1 cc (prod_le HU.out.1 HV.out.2.1) HM.out.h1 hcc.out
          have HE := Lib.hid (And.intro hx (And.intro hc' he))
          clear hx hc' he
          have f1 := HM.out.A.c 0 _ rfl
          have f2 := HM.out.B.c 1 _ rfl
          have f3 := HM.out.O.c 1 _ rfl
          have z3 := HM.out.O.z 1
          go_wp2_with fail
          go_quiet (fail)
          rename_i nq
          go_wp2_with fail
          go_roundw
          case rel =>
            refine ⟨2, by omega, rfl, c', rfl, Lib.hid HE.out.2.1, Lib.hid ⟨o0, x, o2, o3, t, (HM.out.drewN nq).set1 x HE.out.1, ?_⟩⟩
            have h := mul_step (P := 4294967296 ^ (0 + 1)) (p := a0 * b1) HT.out (show lin o0 x o2 o3 = lin o0 o1 o2 o3 + (x - o1) * 4294967296 ^ (0 + 1) by simp [lin]; omega) HE.out.2.2
            have hp : p 0 1 = a0 * b1 := by rw [← HP.out]; rfl
            rw [show allS p 0 + rowS p 0 (1 + 1) = allS p 0 + rowS p 0 1 + p 0 1 * 4294967296 ^ (0 + 1) by show _ + (rowS p 0 1 + _) = _; rw [Int.add_assoc], hp]
            exact h
          case measure => simp [intOf]
        · -- digit 2
          obtain ⟨x, c', e1, e2, hx, hc', he⟩ := mul_round (a0 * b2) o2 cc (prod_le HU.out.1 HV.out.2.2.1) HM.out.h2 hcc.out
          have HE := Lib.hid (And.intro hx (And.intro hc' he))
          clear hx hc' he
          have f1 := HM.out.A.c 0 _ rfl
          have f2 := HM.out.B.c 2 _ rfl
          have f3 := HM.out.O.c 2 _ rfl
          have z3 := HM.out.O.z 2
          go_wp2_with fail
          go_quiet (fail)
          rename_i nq
          go_wp2_with fail
          go_roundw
          case rel =>
            refine ⟨3, by omega, rfl, c', rfl, Lib.hid HE.out.2.1, Lib.hid ⟨o0, o1, x, o3, t, (HM.out.drewN nq).set2 x HE.out.1, ?_⟩⟩
            have h := mul_step (P := 4294967296 ^ (0 + 2)) (p := a0 * b2) HT.out (show lin o0 o1 x o3 = lin o0 o1 o2 o3 + (x - o2) * 4294967296 ^ (0 + 2) by simp [lin]; omega) HE.out.2.2
            have hp : p 0 2 = a0 * b2 := by rw [← HP.out]; rfl
            rw [show allS p 0 + rowS p 0 (2 + 1) = allS p 0 + rowS p 0 2 + p 0 2 * 4294967296 ^ (0 + 2) by show _ + (rowS p 0 2 + _) = _; rw [Int.add_assoc], hp]
            exact h
          case measure => simp [intOf]
        · -- digit 3
          obtain ⟨x, c', e1, e2, hx, hc', he⟩ := mul_round (a0 * b3) o3 cc (prod_le HU.out.1 HV.out.2.2.2) HM.out.h3 hcc.out
          have HE := Lib.hid (And.intro hx (And.intro hc' he))
          clear hx hc' he
          have f1 := HM.out.A.c 0 _ rfl
          have f2 := HM.out.B.c 3 _ rfl
          have f3 := HM.out.O.c 3 _ rfl
          have z3 := HM.out.O.z 3
          go_wp2_with fail
          go_quiet (fail)
          rename_i nq
          go_wp2_with fail
          go_roundw
          case rel =>
            refine ⟨4, by omega, rfl, c', rfl, Lib.hid HE.out.2.1, Lib.hid ⟨o0, o1, o2, x, t, (HM.out.drewN nq).set3 x HE.out.1, ?_⟩⟩
            have h := mul_step (P := 4294967296 ^ (0 + 3)) (p := a0 * b3) HT.out (show lin o0 o1 o2 x = lin o0 o1 o2 o3 + (x - o3) * 4294967296 ^ (0 + 3) by simp [lin]; omega) HE.out.2.2
            have hp : p 0 3 = a0 * b3 := by rw [← HP.out]; rfl
            rw [show allS p 0 + rowS p 0 (3 + 1) = allS p 0 + rowS p 0 3 + p 0 3 * 4294967296 ^ (0 + 3) by show _ + (rowS p 0 3 + _) = _; rw [Int.add_assoc], hp]
            exact h
          case measure => simp [intOf]
        · -- the row's end
          go_wp2_with fail
          go_roundw
          case rel =>
            refine ⟨1, by omega, rfl, Lib.hid ⟨o0, o1, o2, o3, t + cc, HM.out, ?_⟩⟩
            have h := HT.out
            rw [show allS p (0 + 1) = allS p 0 + rowS p 0 4 from rfl, ← h, Int.mul_add]
            simp
            omega
          case measure => simp [intOf]
    · -- row 1
      go_wp2_with fail
      go_loopw [7, 8] (fun c v wr => ∃ k : Nat, k ≤ 3 ∧ v = .int .i64 k ∧ ∃ cc, c = .int .u64 cc ∧ Hid (0 ≤ cc ∧ cc ≤ 4294967295) ∧ Hid (∃ o0 o1 o2 o3 t, MSt w wr a0 a1 a2 a3 b0 b1 b2 b3 o0 o1 o2 o3 ∧ lin o0 o1 o2 o3 + cc * 4294967296 ^ (1 + k) + 340282366920938463463374607431768211456 * t = allS p 1 + rowS p 1 k)) (fun _ v _ => 3 - (intOf v).toNat)
      · obtain ⟨o0, o1, o2, o3, t, hM, ht⟩ := hX.out
        exact ⟨0, by omega, rfl, 0, rfl, Lib.hid (by omega), Lib.hid ⟨o0, o1, o2, o3, t, hM, by rw [Int.zero_mul, Int.add_zero, ht]; simp [rowS]⟩⟩
      · obtain ⟨k, hk, rfl, cc, rfl, hcc, hY⟩ := hrel
        clear hX
        obtain ⟨o0, o1, o2, o3, t, hM, ht⟩ := hY.out
        clear hY
        have HM := Lib.hid hM
        have HT := Lib.hid ht
        clear hM ht
        have cases : k = 0 ∨ k = 1 ∨ k = 2 ∨ k = 3 := by omega
        clear hk
        rcases cases with rfl | rfl | rfl | rfl
        · -- digit 0
          obtain ⟨x, c', e1, e2, hx, hc', he⟩ := mul_round (a1 * b0) o1 cc (prod_le HU.out.2.1 HV.out.1) HM.out.h1 hcc.out
          have HE := Lib.hid (And.intro hx (And.intro hc' he))
          clear hx hc' he
          have f1 := HM.out.A.c 1 _ rfl
          have f2 := HM.out.B.c 0 _ rfl
          have f3 := HM.out.O.c 1 _ rfl
          have z3 := HM.out.O.z 1
          go_wp2_with fail
          go_quiet (fail)
          rename_i nq
          go_wp2_with fail
          go_roundw
          case rel =>
            refine ⟨1, by omega, rfl, c', rfl, Lib.hid HE.out.2.1, Lib.hid ⟨o0, x, o2, o3, t, (HM.out.drewN nq).set1 x HE.out.1, ?_⟩⟩
            have h := mul_step (P := 4294967296 ^ (1 + 0)) (p := a1 * b0) HT.out (show lin o0 x o2 o3 = lin o0 o1 o2 o3 + (x - o1) * 4294967296 ^ (1 + 0) by simp [lin]; omega) HE.out.2.2
            have hp : p 1 0 = a1 * b0 := by rw [← HP.out]; rfl
            rw [show allS p 1 + rowS p 1 (0 + 1) = allS p 1 + rowS p 1 0 + p 1 0 * 4294967296 ^ (1 + 0) by show _ + (rowS p 1 0 + _) = _; rw [Int.add_assoc], hp]
            exact h
          case measure => simp [intOf]
        · -- digit 1
          obtain ⟨x, c', e1, e2, hx, hc', he⟩ := mul_round (a1 * b1) o2 cc (prod_le HU.out.2.1 HV.out.2.1) HM.out.h2 hcc.out
          have HE := Lib.hid (And.intro hx (And.intro hc' he))
          clear hx hc' he
          have f1 := HM.out.A.c 1 _ rfl
          have f2 := HM.out.B.c 1 _ rfl
          have f3 := HM.out.O.c 2 _ rfl
          have z3 := HM.out.O.z 2
          go_wp2_with fail
          go_quiet (fail)
          rename_i nq
          go_wp2_with fail
          go_roundw
          case rel =>
            refine ⟨2, by omega, rfl, c', rfl, Lib.hid HE.out.2.1, Lib.hid ⟨o0, o1, x, o3, t, (HM.out.drewN nq).set2 x HE.out.1, ?_⟩⟩
            have h := mul_step (P := 4294967296 ^ (1 + 1)) (p := a1 * b1) HT.out (show lin o0 o1 x o3 = lin o0 o1 o2 o3 + (x - o2) * 4294967296 ^ (1 + 1) by simp [lin]; omega) HE.out.2.2
            have hp : p 1 1 = a1 * b1 := by rw [← HP.out]; rfl
            rw [show allS p 1 + rowS p 1 (1 + 1) = allS p 1 + rowS p 1 1 + p 1 1 * 4294967296 ^ (1 + 1) by show _ + (rowS p 1 1 + _) = _; rw [Int.add_assoc], hp]
            exact h
          case measure => simp [intOf]
        · -- digit 2
          obtain ⟨x, c', e1, e2, hx, hc', he⟩ := mul_round (a1 * b2) o3 cc (prod_le HU.out.2.1 HV.out.2.2.1) HM.out.h3 hcc.out
          have HE := Lib.hid (And.intro hx (And.intro hc' he))
          clear hx hc' he
          have f1 := HM.out.A.c 1 _ rfl
          have f2 := HM.out.B.c 2 _ rfl
          have f3 := HM.out.O.c 3 _ rfl
          have z3 := HM.out.O.z 3
          go_wp2_with fail
          go_quiet (fail)
          rename_i nq
          go_wp2_with fail
          go_roundw
          case rel =>
            refine ⟨3, by omega, rfl, c', rfl, Lib.hid HE.out.2.1, Lib.hid ⟨o0, o1, o2, x, t, (HM.out.drewN nq).set3 x HE.out.1, ?_⟩⟩
            have h := mul_step (P := 4294967296 ^ (1 + 2)) (p := a1 * b2) HT.out (show lin o0 o1 o2 x = lin o0 o1 o2 o3 + (x - o3) * 4294967296 ^ (1 + 2) by simp [lin]; omega) HE.out.2.2
            have hp : p 1 2 = a1 * b2 := by rw [← HP.out]; rfl
            rw [show allS p 1 + rowS p 1 (2 + 1) = allS p 1 + rowS p 1 2 + p 1 2 * 4294967296 ^ (1 + 2) by show _ + (rowS p 1 2 + _) = _; rw [Int.add_assoc], hp]
            exact h
          case measure => simp [intOf]
        · -- the row's end
          go_wp2_with fail
          go_roundw
          case rel =>
            refine ⟨2, by omega, rfl, Lib.hid ⟨o0, o1, o2, o3, t + cc, HM.out, ?_⟩⟩
            have h := HT.out
            rw [show allS p (1 + 1) = allS p 1 + rowS p 1 3 from rfl, ← h, Int.mul_add]
            simp
            omega
          case measure => simp [intOf]
    · -- row 2
      go_wp2_with fail
      go_loopw [7, 8] (fun c v wr => ∃ k : Nat, k ≤ 2 ∧ v = .int .i64 k ∧ ∃ cc, c = .int .u64 cc ∧ Hid (0 ≤ cc ∧ cc ≤ 4294967295) ∧ Hid (∃ o0 o1 o2 o3 t, MSt w wr a0 a1 a2 a3 b0 b1 b2 b3 o0 o1 o2 o3 ∧ lin o0 o1 o2 o3 + cc * 4294967296 ^ (2 + k) + 340282366920938463463374607431768211456 * t = allS p 2 + rowS p 2 k)) (fun _ v _ => 2 - (intOf v).toNat)
      · obtain ⟨o0, o1, o2, o3, t, hM, ht⟩ := hX.out
        exact ⟨0, by omega, rfl, 0, rfl, Lib.hid (by omega), Lib.hid ⟨o0, o1, o2, o3, t, hM, by rw [Int.zero_mul, Int.add_zero, ht]; simp [rowS]⟩⟩
      · obtain ⟨k, hk, rfl, cc, rfl, hcc, hY⟩ := hrel
        clear hX
        obtain ⟨o0, o1, o2, o3, t, hM, ht⟩ := hY.out
        clear hY
        have HM := Lib.hid hM
        have HT := Lib.hid ht
        clear hM ht
        have cases : k = 0 ∨ k = 1 ∨ k = 2 := by omega
        clear hk
        rcases cases with rfl | rfl | rfl
        · -- digit 0
          obtain ⟨x, c', e1, e2, hx, hc', he⟩ := mul_round (a2 * b0) o2 cc (prod_le HU.out.2.2.1 HV.out.1) HM.out.h2 hcc.out
          have HE := Lib.hid (And.intro hx (And.intro hc' he))
          clear hx hc' he
          have f1 := HM.out.A.c 2 _ rfl
          have f2 := HM.out.B.c 0 _ rfl
          have f3 := HM.out.O.c 2 _ rfl
          have z3 := HM.out.O.z 2
          go_wp2_with fail
          go_quiet (fail)
          rename_i nq
          go_wp2_with fail
          go_roundw
          case rel =>
            refine ⟨1, by omega, rfl, c', rfl, Lib.hid HE.out.2.1, Lib.hid ⟨o0, o1, x, o3, t, (HM.out.drewN nq).set2 x HE.out.1, ?_⟩⟩
            have h := mul_step (P := 4294967296 ^ (2 + 0)) (p := a2 * b0) HT.out (show lin o0 o1 x o3 = lin o0 o1 o2 o3 + (x - o2) * 4294967296 ^ (2 + 0) by simp [lin]; omega) HE.out.2.2
            have hp : p 2 0 = a2 * b0 := by rw [← HP.out]; rfl
            rw [show allS p 2 + rowS p 2 (0 + 1) = allS p 2 + rowS p 2 0 + p 2 0 * 4294967296 ^ (2 + 0) by show _ + (rowS p 2 0 + _) = _; rw [Int.add_assoc], hp]
            exact h
          case measure => simp [intOf]
        · -- digit 1
          obtain ⟨x, c', e1, e2, hx, hc', he⟩ := mul_round (a2 * b1) o3 cc (prod_le HU.out.2.2.1 HV.out.2.1) HM.out.h3 hcc.out
          have HE := Lib.hid (And.intro hx (And.intro hc' he))
          clear hx hc' he
          have f1 := HM.out.A.c 2 _ rfl
          have f2 := HM.out.B.c 1 _ rfl
          have f3 := HM.out.O.c 3 _ rfl
          have z3 := HM.out.O.z 3
          go_wp2_with fail
          go_quiet (fail)
          rename_i nq
          go_wp2_with fail
          go_roundw
          case rel =>
            refine ⟨2, by omega, rfl, c', rfl, Lib.hid HE.out.2.1, Lib.hid ⟨o0, o1, o2, x, t, (HM.out.drewN nq).set3 x HE.out.1, ?_⟩⟩
            have h := mul_step (P := 4294967296 ^ (2 + 1)) (p := a2 * b1) HT.out (show lin o0 o1 o2 x = lin o0 o1 o2 o3 + (x - o3) * 4294967296 ^ (2 + 1) by simp [lin]; omega) HE.out.2.2
            have hp : p 2 1 = a2 * b1 := by rw [← HP.out]; rfl
            rw [show allS p 2 + rowS p 2 (1 + 1) = allS p 2 + rowS p 2 1 + p 2 1 * 4294967296 ^ (2 + 1) by show _ + (rowS p 2 1 + _) = _; rw [Int.add_assoc], hp]
            exact h
          case measure => simp [intOf]
        · -- the row's end
          go_wp2_with fail
          go_roundw
          case rel =>
            refine ⟨3, by omega, rfl, Lib.hid ⟨o0, o1, o2, o3, t + cc, HM.out, ?_⟩⟩
            have h := HT.out
            rw [show allS p (2 + 1) = allS p 2 + rowS p 2 2 from rfl, ← h, Int.mul_add]
            simp
            omega
          case measure => simp [intOf]
    · -- row 3
      go_wp2_with fail
      go_loopw [7, 8] (fun c v wr => ∃ k : Nat, k ≤ 1 ∧ v = .int .i64 k ∧ ∃ cc, c = .int .u64 cc ∧ Hid (0 ≤ cc ∧ cc ≤ 4294967295) ∧ Hid (∃ o0 o1 o2 o3 t, MSt w wr a0 a1 a2 a3 b0 b1 b2 b3 o0 o1 o2 o3 ∧ lin o0 o1 o2 o3 + cc * 4294967296 ^ (3 + k) + 340282366920938463463374607431768211456 * t = allS p 3 + rowS p 3 k)) (fun _ v _ => 1 - (intOf v).toNat)
      · obtain ⟨o0, o1, o2, o3, t, hM, ht⟩ := hX.out
        exact ⟨0, by omega, rfl, 0, rfl, Lib.hid (by omega), Lib.hid ⟨o0, o1, o2, o3, t, hM, by rw [Int.zero_mul, Int.add_zero, ht]; simp [rowS]⟩⟩
      · obtain ⟨k, hk, rfl, cc, rfl, hcc, hY⟩ := hrel
        clear hX
        obtain ⟨o0, o1, o2, o3, t, hM, ht⟩ := hY.out
        clear hY
        have HM := Lib.hid hM
        have HT := Lib.hid ht
        clear hM ht
        have cases : k = 0 ∨ k = 1 := by omega
        clear hk
        rcases cases with rfl | rfl
        · -- digit 0
          obtain ⟨x, c', e1, e2, hx, hc', he⟩ := mul_round (a3 * b0) o3 cc (prod_le HU.out.2.2.2 HV.out.1) HM.out.h3 hcc.out
          have HE := Lib.hid (And.intro hx (And.intro hc' he))
          clear hx hc' he
          have f1 := HM.out.A.c 3 _ rfl
          have f2 := HM.out.B.c 0 _ rfl
          have f3 := HM.out.O.c 3 _ rfl
          have z3 := HM.out.O.z 3
          go_wp2_with fail
          go_quiet (fail)
          rename_i nq
          go_wp2_with fail
          go_roundw
          case rel =>
            refine ⟨1, by omega, rfl, c', rfl, Lib.hid HE.out.2.1, Lib.hid ⟨o0, o1, o2, x, t, (HM.out.drewN nq).set3 x HE.out.1, ?_⟩⟩
            have h := mul_step (P := 4294967296 ^ (3 + 0)) (p := a3 * b0) HT.out (show lin o0 o1 o2 x = lin o0 o1 o2 o3 + (x - o3) * 4294967296 ^ (3 + 0) by simp [lin]; omega) HE.out.2.2
            have hp : p 3 0 = a3 * b0 := by rw [← HP.out]; rfl
            rw [show allS p 3 + rowS p 3 (0 + 1) = allS p 3 + rowS p 3 0 + p 3 0 * 4294967296 ^ (3 + 0) by show _ + (rowS p 3 0 + _) = _; rw [Int.add_assoc], hp]
            exact h
          case measure => simp [intOf]
        · -- the row's end
          go_wp2_with fail
          go_roundw
          case rel =>
            refine ⟨4, by omega, rfl, Lib.hid ⟨o0, o1, o2, o3, t + cc, HM.out, ?_⟩⟩
            have h := HT.out
            rw [show allS p (3 + 1) = allS p 3 + rowS p 3 1 from rfl, ← h, Int.mul_add]
            simp
            omega
          case measure => simp [intOf]
    · -- the end
      obtain ⟨o0, o1, o2, o3, t, hM, ht⟩ := hX.out
      have hR := HF.out o0 o1 o2 o3 t hM.h0 hM.h1 hM.h2 hM.h3 ht
      have HM := Lib.hid hM
      subst hR
      clear hX ht hM HF
      have g0 := HM.out.O.c 0 _ rfl
      have g1 := HM.out.O.c 1 _ rfl
      have g2 := HM.out.O.c 2 _ rfl
      have g3 := HM.out.O.c 3 _ rfl
      have z0 := HM.out.C.z 0
      have z1 := HM.out.C.z 1
      have z2 := HM.out.C.z 2
      have z3 := HM.out.C.z 3
      have y0 := HM.out.C.c 0 _ rfl
      have y1 := HM.out.C.c 1 _ rfl
      have y2 := HM.out.C.c 2 _ rfl
      have y3 := HM.out.C.c 3 _ rfl
      go_wp2_with fail
      exact bodyPost_ret (v := .agg #[.int .u64 o0, .int .u64 o1, .int .u64 o2, .int .u64 o3]) (by simp [results, Try.results24, go_sem, y0, y1, y2, y3]) rfl ⟨rfl, bel_set (bel_set (bel_set (bel_set HM.out.D (by omega) _) (by omega) _) (by omega) _) (by omega) _⟩
end Go.Proofs.Ytbiofjddclbncaa.Mo
