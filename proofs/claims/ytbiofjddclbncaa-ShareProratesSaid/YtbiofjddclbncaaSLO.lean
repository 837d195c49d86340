import Derived.Test.YtbiofjddclbncaaSLS
import Derived.SizedLaws
namespace Go.Proofs.Ytbiofjddclbncaa.Mem
set_option linter.unusedVariables false
set_option linter.unusedSimpArgs false
open Go.RowKit Go.ChangeShapes Go.WideShapes Go.Deep
section
variable {H : Type} {enc : TypeId × Value → H} {P : Program} {w : World} {base : Nat} {spare : Nat → Bool} {held : Bool}
/-- How long a []int64 that came in may be, by the form's own reach. -/
theorem len_of_trod {t e : TypeId} {A : Option Addr} {len cap : Nat} {d : DataW H} {p : List MemPlace} (ht : P.underlying t = some (.slice e)) (he : P.underlying e = some (.int .i64)) (hc : P.cellsOf e = 1) (hby : P.bytesOf e = 8)
    (h : DataW.Trod enc P w base spare held t (.slice A len cap) d p) {ts : List TypeId} {ds : List (DataW H)} {k : Nat} (hZ : (DataW.weightsEach P ts ds).all (· ≤ reachBytes) = true) (hts : ts[k]? = some t) (hds : ds[k]? = some d) : len ≤ 17592186043904 := by
  obtain ⟨fuel, hf⟩ := h
  rcases open_ints ht he hc hf with ⟨hcs, _⟩ | ⟨a, len', cap', zs, hcs, _, hl, hm, hz, hx, _, _⟩
  · simp [Value.cells] at hcs
    omega
  · simp [Value.cells] at hcs
    obtain ⟨rfl, rfl, rfl⟩ := hcs
    injection hx with hd _
    rw [hd] at hds
    have := sized_slice hZ hts hds ht
    rw [hby] at this
    have hzl : len ≤ zs.length := by rw [hz]; split <;> omega
    have e1 : (lits .i64 (zs.take len) : List (DataW H)).length = len := by simp [lits]; omega
    rw [e1] at this
    have hr : reachBytes = 140737488351232 := by decide
    rw [hr] at this
    have := Nat.le_trans (Nat.mul_le_mul_right 8 (Nat.le_add_right len (lits .i64 (zs.drop len) : List (DataW H)).length)) this
    omega
end
end Go.Proofs.Ytbiofjddclbncaa.Mem
namespace Go.Proofs.Ytbiofjddclbncaa
set_option linter.unusedVariables false
set_option linter.unusedSimpArgs false
set_option maxRecDepth 8000
open Go.RowKit Mem Mo Sr
theorem gv_tl {n : Nat} {f : Nat → Int} {k : Nat} (h : k < n) : gv (tl n f) k = f k := by rw [gv_at (by rw [tl_len]; exact h), tl_at]
/-- Weights that are all so many times as great. -/
theorem more_same (T : Int) (l : List Int) (m : Int) (hm : 1 ≤ m ∧ m ≤ 256) (hl : ∀ j, j < l.length → 0 ≤ gv l j ∧ gv l j ≤ 1099511627776) : spE T (tl l.length (fun j => m * gv l j)) = spE T l ∧ shl T (tl l.length (fun j => m * gv l j)) = shl T l := by
  have hlen := tl_len l.length (fun j => m * gv l j)
  by_cases h1 : 100 < l.length
  · have a := spE_a (T := T) (l := l) (.inl h1)
    have b := spE_a (T := T) (l := tl l.length (fun j => m * gv l j)) (.inl (by rw [hlen]; exact h1))
    exact ⟨by rw [a.1, b.1], by rw [a.2, b.2]⟩
  by_cases h2 : wnB 0 9223372036854775807 [T] = false
  · have a := spE_a (T := T) (l := l) (.inr (.inl h2))
    have b := spE_a (T := T) (l := tl l.length (fun j => m * gv l j)) (.inr (.inl h2))
    exact ⟨by rw [a.1, b.1], by rw [a.2, b.2]⟩
  have hp : ∀ j, j < l.length → 0 ≤ m * gv l j ∧ m * gv l j ≤ 281474976710656 := fun j hj => by
    have := hl j hj
    have h3 : m * gv l j ≤ 256 * gv l j := Int.mul_le_mul_of_nonneg_right hm.2 this.1
    exact ⟨Int.mul_nonneg (by omega) this.1, by omega⟩
  have w1 : wnB 0 9223372036854775807 l = true := wnB_t fun k hk => by have := hl k hk; rw [gv_at hk] at this; omega
  have w2 : wnB 0 9223372036854775807 (tl l.length (fun j => m * gv l j)) = true := wnB_t fun k hk => by rw [tl_at]; have := hp k (by rw [hlen] at hk; exact hk); omega
  have wT : wnB 0 9223372036854775807 [T] = true := by cases h : wnB 0 9223372036854775807 [T]; exact absurd h h2; rfl
  have s1 := sum_gv l
  have s2 : (tl l.length (fun j => m * gv l j)).sum = m * l.sum := by rw [tl_sum, sm_mul, ← s1]
  have b0 := sm_nonneg (f := gv l) (n := l.length) fun j hj => (hl j hj).1
  have b1 := sm_up (f := gv l) (n := l.length) (M := 1099511627776) fun j hj => (hl j hj).2
  rw [← s1] at b0 b1
  have i1 : isn l.sum = true := (isn_iff _).2 (by omega)
  have b2 : m * l.sum ≤ 256 * l.sum := Int.mul_le_mul_of_nonneg_right hm.2 b0
  have b3 : 0 ≤ m * l.sum := Int.mul_nonneg (by omega) b0
  have i2 : isn (m * l.sum) = true := (isn_iff _).2 (by omega)
  have n1 : ¬ (100 < l.length ∨ wnB 0 9223372036854775807 [T] = false ∨ wnB 0 9223372036854775807 l = false) := by rw [wT, w1]; simp; omega
  have n2 : ¬ (100 < (tl l.length (fun j => m * gv l j)).length ∨ wnB 0 9223372036854775807 [T] = false ∨ wnB 0 9223372036854775807 (tl l.length (fun j => m * gv l j)) = false) := by rw [wT, w2, hlen]; simp; omega
  by_cases h0 : l.sum = 0
  · have a := spE_z n1 i1 h0
    have b := spE_z n2 (by rw [s2]; exact i2) (by rw [s2, h0]; simp)
    exact ⟨by rw [a.1, b.1], by rw [a.2, b.2]⟩
  · have a := spE_y n1 i1 h0
    have b := spE_y n2 (by rw [s2]; exact i2) (by rw [s2]; intro e; rcases Int.mul_eq_zero.1 e with e | e; omega; exact h0 e)
    refine ⟨by rw [a.1, b.1], ?_⟩
    rw [a.2, b.2, hlen, s2]
    refine tl_congr fun k hk => ?_
    rw [← shr_mul T (gv l) l.length (A := l.sum) (c := m) (by omega) k]
    have eq : ∀ i, i < l.length → qv T (gv (tl l.length (fun j => m * gv l j))) (m * l.sum) i = qv T (fun k => m * gv l k) (m * l.sum) i := fun i hi => by unfold qv; rw [gv_tl hi]
    have er : ∀ i, i < l.length → rv T (gv (tl l.length (fun j => m * gv l j))) (m * l.sum) i = rv T (fun k => m * gv l k) (m * l.sum) i := fun i hi => by unfold rv; rw [gv_tl hi]
    have el : lf T (gv (tl l.length (fun j => m * gv l j))) l.length (m * l.sum) = lf T (fun k => m * gv l k) l.length (m * l.sum) := by unfold lf; rw [sm_congr eq]
    have es : srt (rv T (gv (tl l.length (fun j => m * gv l j))) (m * l.sum)) l.length = srt (rv T (fun k => m * gv l k) (m * l.sum)) l.length := bef_iff fun i j hi hj => by unfold bef; rw [er i hi, er j hj]
    unfold shr
    rw [eq k hk, el]
    have eh : had (rv T (gv (tl l.length (fun j => m * gv l j))) (m * l.sum)) l.length (lf T (fun k => m * gv l k) l.length (m * l.sum)).toNat k ↔ had (rv T (fun k => m * gv l k) (m * l.sum)) l.length (lf T (fun k => m * gv l k) l.length (m * l.sum)).toNat k := by unfold had; rw [es]
    by_cases c : had (rv T (fun k => m * gv l k) (m * l.sum)) l.length (lf T (fun k => m * gv l k) l.length (m * l.sum)).toNat k
    · rw [if_pos c, if_pos (eh.2 c)]
    · rw [if_neg c, if_neg (fun h => c (eh.1 h))]
set_option maxHeartbeats 2000000 in
theorem shareOrder_walk (T : Int) (A : Option Addr) (len c : Nat) (l : List Int) (hl : l.length = len) (y : Int) (w : World) (hT : (Lit.int .i64 T).wf = true) (hr : RdI w w.heap.size A c l ∧ ∀ x ∈ l, -9223372036854775808 ≤ x ∧ x ≤ 9223372036854775807) (hz : len ≤ 17592186043904) (hy : (Lit.int .u8 y).wf = true) :
    Calls Try.prog 6 #[.int .i64 T, .slice A len c, .int .u8 y] w fun e w' => e = .returned (.bool true) ∧ Below w.heap.size w w' := by
  have hTb := i64_bd hT
  have hyb : 0 ≤ y ∧ y ≤ 255 := by simpa [Lit.wf, IntKind.min, IntKind.max, IntKind.bits, IntKind.signed] using hy
  have HR := Lib.hid hr.1
  have HNm := Lib.hid (show Nums l from hr.2)
  have G := Lib.hid (fun W => goes_any W)
  have SP := Lib.hid (fun A' c' k W (h : RdI W W.heap.size A' c' k) (hk : Nums k) => Split_any T A' c' k W W.heap.size h (Nat.le_refl _) hk hTb)
  obtain ⟨m, hm⟩ := named (1 + y)
  have HM := Lib.hid (show 1 ≤ m ∧ m ≤ 256 by omega)
  have K1 := Lib.hid (show wrap64 y = y by rw [← wrapEq, IntKind.wrap_i64]; omega)
  have K2 := Lib.hid (show wrap64 (1 + y) = m by rw [← wrapEq, IntKind.wrap_i64]; omega)
  have HN := Lib.hid hl
  have HZ := Lib.hid hz
  have hlen2 : len < 17592186043905 := by omega
  clear hr hT hTb hy hyb hl hz hm
  go_enter Try.func6, Try.ntmps6
  go_wp2_with fail
  go_loopw [7, 8] (fun u v wr => ∃ (k : Nat) (A2 : Option Addr) (c2 : Nat), k ≤ len ∧ v = .int .i64 k ∧ u = .slice A2 k c2 ∧ Hid (OwnJ 2 wr w.heap.size (.slice A2 k c2) (tl k (fun j => m * gv l j))) ∧ Hid (∀ j, j < k → 0 ≤ gv l j ∧ gv l j ≤ 1099511627776) ∧ Hid (Below w.heap.size w wr)) (fun _ v _ => len - (intOf v).toNat)
  · exact ⟨0, none, 0, Nat.zero_le _, rfl, rfl, Lib.hid (OwnJ.nil _ _ _), Lib.hid (fun j hj => by omega), Lib.hid (Below.refl _ _)⟩
  · obtain ⟨k, A2, c2, hk, rfl, rfl, HO, HJ, HB⟩ := hrel
    by_cases hkn : k < len
    · have z1 := lt_t hkn
      obtain ⟨b, o, rfl, e1⟩ := rd_cell (HR.out.below HB.out) (j := k) (by rw [HN.out]; exact hkn)
      obtain ⟨x, hx⟩ := named (gv l k)
      rw [hx] at e1
      have HX := Lib.hid hx
      by_cases h1 : x < 0
      · have z2 : (x < 0) = True := eq_true h1
        clear h1 hx
        go_wp2_with fail
        refine (G.out _).mono ?_
        rintro e w2 ⟨rfl, hb⟩
        have B2 := Lib.hid (Bt HB.out hb)
        clear hb
        go_wp2_with fail
        go_ret
        exact ⟨rfl, B2.out⟩
      · by_cases h2 : 1099511627776 < x
        · have z2 : (x < 0) = False := eq_false h1
          have z3 : (1099511627776 < x) = True := eq_true h2
          clear h1 h2 hx
          go_wp2_with fail
          refine (G.out _).mono ?_
          rintro e w2 ⟨rfl, hb⟩
          have B2 := Lib.hid (Bt HB.out hb)
          clear hb
          go_wp2_with fail
          go_ret
          exact ⟨rfl, B2.out⟩
        · have z2 : (x < 0) = False := eq_false h1
          have z3 : (1099511627776 < x) = False := eq_false h2
          have HJ2 := Lib.hid (show ∀ j, j < k + 1 → 0 ≤ gv l j ∧ gv l j ≤ 1099511627776 from fun j hj => by
            rcases Nat.lt_or_eq_of_le (Nat.le_of_lt_succ hj) with q | rfl
            · exact HJ.out j q
            · rw [hx]; omega)
          have hmm := HM.out
          have hp : 0 ≤ x * m ∧ x * m ≤ 281474976710656 := by
            have h3 : x * m ≤ x * 256 := Int.mul_le_mul_of_nonneg_left hmm.2 (by omega)
            exact ⟨Int.mul_nonneg (by omega) (by omega), by omega⟩
          have t1 := tl_succ k (fun j => m * gv l j)
          have l1 := tl_len k (fun j => m * gv l j)
          rw [hx, Int.mul_comm m x] at t1
          obtain ⟨q, hq⟩ := named (x * m)
          rw [hq] at t1 hp
          have K3 := Lib.hid (show wrap64 (x * m) = q by rw [← wrapEq, IntKind.wrap_i64]; omega)
          obtain ⟨L1, hL1⟩ := named (tl k (fun j => m * gv l j))
          rw [hL1] at t1 HO l1
          have HT1 := Lib.hid t1
          have HL1 := Lib.hid l1
          have HZ2 := Lib.hid (show L1.length + [q].length ≤ 17592186044416 by simp; have := HZ.out; omega)
          have hoA : Hid (OwnJ 2 (wr.alloc (.cells #[.int .i64 q] 2)) w.heap.size (.slice A2 k c2) L1) := Lib.hid (HO.out.below (Ba _ _) (Nat.le_refl _))
          have hrA : Hid (RdI (wr.alloc (.cells #[.int .i64 q] 2)) (wr.heap.size + 1) (some ⟨wr.heap.size, 0, none⟩) 1 [q]) := Lib.hid (RdI.lit wr [q] 2 (by unfold maxLen; simp))
          clear h1 h2 hx hmm hp t1 l1 hL1 hq
          have k1 := K1.out
          have k2 := K2.out
          have k3 := K3.out
          go_upto_region 4 with (at_builtin; refine wpList_append_j ityL rfl _ _ rfl w.heap.size _ _ rfl hoA.out (wr.heap.size + 1) _ _ 1 [q] rfl rfl hrA.out HZ2.out (by have := HB.out.size; simp; omega) ?_; intro v4 w4 hown4 hg4 hat4)
          obtain ⟨A3, c3, hv4, _⟩ := hown4.form
          rw [show (L1 ++ [q]).length = k + 1 by have := HL1.out; simp; omega] at hv4
          subst hv4
          have HO4 := Lib.hid hown4
          have B4 := Lib.hid ((HB.out.alloc HB.out.size (.cells #[.int .i64 q] 2)).grown hg4 (by have := HB.out.size; simp; omega) (fun j e => (World.ownsRow.lt hoA.out j e).1))
          clear hown4 hg4 hat4 hoA hrA k1 k2 k3
          go_wp2_with fail
          go_roundw
          case rel => exact ⟨k + 1, A3, c3, by omega, by go_num, by first | rfl | go_num, by rw [HT1.out]; exact HO4, HJ2, B4⟩
          case measure => simp [intOf]; omega
    · obtain rfl : k = len := by omega
      have z1 := lt_f (Nat.le_refl k)
      obtain ⟨A3, c3, hv4, hr4, _⟩ := HO.out.form
      rw [tl_len] at hv4
      injection hv4 with e1 _ e3
      subst e1 e3
      have R4 := Lib.hid hr4
      have MS := Lib.hid (more_same T l m HM.out (by rw [HN.out]; exact HJ.out))
      have S1 := Lib.hid (fun W h => SP.out A c l W h HNm.out)
      have S2 := Lib.hid (fun W h => SP.out A2 c2 (tl k (fun j => m * gv l j)) W h (fun x hx => by
        obtain ⟨j, hj, rfl⟩ := tl_mem hx
        have a := HJ.out j hj
        have b := HM.out
        have h3 : m * gv l j ≤ 256 * gv l j := Int.mul_le_mul_of_nonneg_right b.2 a.1
        have h4 : 0 ≤ m * gv l j := Int.mul_nonneg (by omega) a.1
        omega))
      have ms := MS.out
      rw [HN.out] at ms
      unfold SpPost at S1 S2
      rw [ms.1, ms.2, tl_len] at S2
      rw [HN.out] at S1
      have SA := Lib.hid (fun A1 c1 A2 c2 W h1 h2 => same_any A1 c1 (shl T l) A2 c2 (shl T l) W h1 h2)
      rw [decide_eq_true rfl] at SA
      obtain ⟨p, hp⟩ := named (shl T l).length
      rw [hp] at S1 S2 SA
      generalize spE T l = ev at *
      clear hkn hr4 hp SP MS ms
      go_wp2_with fail
      refine (S1.out wr (Rb HR.out HB.out)).mono ?_
      rintro e w2 ⟨Aa, ca, rfl, hr, hb⟩
      have Ra := Lib.hid hr
      have R5 := Lib.hid (Rb R4.out hb)
      have B2 := Lib.hid (Bt HB.out hb)
      clear hr hb
      go_wp2_with fail
      refine (S2.out w2 R5.out).mono ?_
      rintro e w3 ⟨Ab, cb, rfl, hr, hb⟩
      have Ra3 := Lib.hid (Rb Ra.out hb)
      have Rb3 := Lib.hid hr
      have B3 := Lib.hid (Bt B2.out hb)
      clear hr hb
      go_wp2_with fail
      refine (SA.out Aa ca Ab cb w3 Ra3.out Rb3.out).mono ?_
      rintro e w4 ⟨rfl, hb⟩
      have B4 := Lib.hid (Bt B3.out hb)
      clear hb
      go_wp2_with fail
      refine (G.out _).mono ?_
      rintro e w5 ⟨rfl, hb⟩
      have B5 := Lib.hid (Bt B4.out hb)
      clear hb
      go_wp2_with fail
      go_ret
      exact ⟨rfl, B5.out⟩
end Go.Proofs.Ytbiofjddclbncaa
