import Derived.Test.YtleafhedkmajjaaMr6
import Derived.Test.YtleafhedkmajjaaLS
namespace Go.Proofs.Ytleafhedkmajjaa
set_option linter.unusedVariables false
set_option linter.unusedSimpArgs false
set_option maxRecDepth 8000
open Go.RowKit Mem Mo
set_option maxHeartbeats 2000000 in
theorem moneyParts_walk (a b d : Int) (w : World) (_ha : (Lit.int .i64 a).wf = true) (_hb : (Lit.int .i64 b).wf = true) (_hd : (Lit.int .i64 d).wf = true) : Calls Try.prog 4 #[.int .i64 a, .int .i64 b, .int .i64 d] w fun e w' => e = .returned (.bool true) ∧ Below w.heap.size w w' := by
  have ha := i64_bd _ha
  have hb := i64_bd _hb
  have hd := i64_bd _hd
  clear _ha _hb _hd
  have G := Lib.hid (fun W => goes_any W)
  have B0 := Lib.hid (Below.refl w.heap.size w)
  rcases badP a b d with h | ⟨h1, h2, h3⟩
  · have C1 := Lib.hid (fun W => Part_no a b d W h)
    have C2 := Lib.hid (fun W => RPart_no a b d W h)
    clear ha hb hd h
    go_enter Try.func4, Try.ntmps4
    go_wp2_with fail
    refine (C1.out _).mono ?_
    rintro e w1 ⟨rfl, hb⟩
    have B1 := Lib.hid (B0.out.trans (hb.mono B0.out.size)); clear hb
    go_wp2_with fail
    refine (C2.out _).mono ?_
    rintro e w2 ⟨rfl, hb⟩
    have B2 := Lib.hid (B1.out.trans (hb.mono B1.out.size)); clear hb
    go_wp2_with fail
    refine (G.out _).mono ?_
    rintro e w3 ⟨rfl, hb⟩
    have B3 := Lib.hid (B2.out.trans (hb.mono B2.out.size)); clear hb
    go_wp2_with fail
    go_ret
    exact ⟨rfl, B3.out⟩
  · have C1 := Lib.hid (fun W => Part_yes a b d W h1 (by omega) h2 (by omega) h3 (by omega))
    have C2 := Lib.hid (fun W => RPart_yes a b d W h1 (by omega) h2 (by omega) h3 (by omega))
    generalize na (a * b / d) = v1 at *
    generalize ne (a * b / d) = v2 at *
    generalize pr (a * b / d) (a * b % d) = v3 at *
    clear ha hb hd h1 h2 h3
    go_enter Try.func4, Try.ntmps4
    go_wp2_with fail
    refine (C1.out _).mono ?_
    rintro e w1 ⟨rfl, hb⟩
    have B1 := Lib.hid (B0.out.trans (hb.mono B0.out.size)); clear hb
    go_wp2_with fail
    refine (C2.out _).mono ?_
    rintro e w2 ⟨rfl, hb⟩
    have B2 := Lib.hid (B1.out.trans (hb.mono B1.out.size)); clear hb
    go_wp2_with fail
    refine (G.out _).mono ?_
    rintro e w3 ⟨rfl, hb⟩
    have B3 := Lib.hid (B2.out.trans (hb.mono B2.out.size)); clear hb
    go_wp2_with fail
    go_ret
    exact ⟨rfl, B3.out⟩

set_option maxHeartbeats 4000000 in
theorem moneySums_walk (a b : Int) (A : Option Addr) (len c : Nat) (l : List Int) (hl : l.length = len) (w : World) (_ha : (Lit.int .i64 a).wf = true) (_hb : (Lit.int .i64 b).wf = true) (hr : RdI w w.heap.size A c l ∧ Nums l) :
    Calls Try.prog 3 #[.int .i64 a, .int .i64 b, .slice A len c] w fun e w' => e = .returned (.bool true) ∧ Below w.heap.size w w' := by
  have ha := i64_bd _ha
  have hb := i64_bd _hb
  clear _ha _hb
  have G := Lib.hid (fun W => goes_any W)
  have B0 := Lib.hid (Below.refl w.heap.size w)
  by_cases h1 : 100 < len
  · clear hr hl ha hb
    go_enter Try.func3, Try.ntmps3
    go_wp2_with fail
    go_ret
    exact ⟨rfl, B0.out⟩
  have C1 := Lib.hid (fun W => Add_any a b W (by omega) (by omega) (by omega) (by omega))
  have hab : Nums [a, b] := by intro x hx; simp at hx; rcases hx with rfl | rfl <;> omega
  have C2 := Lib.hid (fun W => RSum_any (some ⟨W.heap.size, 0, none⟩) 2 [a, b] (W.alloc (.cells #[.int .i64 a, .int .i64 b] 2)) (W.heap.size + 1) (RdI.lit W [a, b] 2 (by unfold maxLen; simp)) (by simp) hab (by simp))
  simp only [List.sum_cons, List.sum_nil, Int.add_zero] at C2
  have C3 := Lib.hid (fun W => Mul_any a b W (by omega) (by omega) (by omega) (by omega))
  have C4 := Lib.hid (fun W => Of_any a W (by omega) (by omega))
  have C5 := Lib.hid (fun W => Of_any b W (by omega) (by omega))
  have C6 := Lib.hid (fun W => RMul_any a b W)
  have hp : -85070591730234615865843651857942052864 ≤ a * b ∧ a * b ≤ 85070591730234615865843651857942052864 := by
    have h : (a * b).natAbs ≤ 85070591730234615865843651857942052864 := by
      rw [Int.natAbs_mul]
      exact Nat.mul_le_mul (n₁ := a.natAbs) (m₁ := b.natAbs) (n₂ := 9223372036854775808) (m₂ := 9223372036854775808) (by omega) (by omega)
    omega
  have C7 := Lib.hid (fun W => Small_any (a * b) W (by omega) (by omega))
  have C8 := Lib.hid (fun W (hB : Below w.heap.size w W) => Sum_any A c l W w.heap.size (hr.1.below hB) hB.size hr.2 (by rw [hl]; omega))
  have C9 := Lib.hid (fun W (hB : Below w.heap.size w W) => RSum_any A c l W w.heap.size (hr.1.below hB) hB.size hr.2 (by rw [hl]; omega))
  rw [hl] at C8 C9
  have z2 : ((100 : Int) < (len : Int)) = False := by simp; omega
  generalize bg a = ga at *
  generalize bg b = gb at *
  generalize bg (a * b) = gm at *
  generalize na (a + b) = s1 at *
  generalize ne (a + b) = s2 at *
  generalize na l.sum = s3 at *
  generalize ne l.sum = s4 at *
  clear hr hl ha hb hab hp h1
  cases hm : isn (a * b) with
  | true =>
    rw [hm] at C7
    rw [ne_t hm] at C3
    generalize na (a * b) = m1 at *
    clear hm
    go_enter Try.func3, Try.ntmps3
    go_wp2_with fail
    refine (C1.out _).mono ?_
    rintro e w1 ⟨rfl, hb⟩
    have B1 := Lib.hid (B0.out.trans (hb.mono B0.out.size)); clear hb
    go_wp2_with fail
    refine (C2.out _).mono ?_
    rintro e w2 ⟨rfl, hb⟩
    have B2 := Lib.hid ((B1.out.alloc B1.out.size _).trans (hb.mono (Nat.le_trans B1.out.size (by simp)))); clear hb
    go_wp2_with fail
    refine (C3.out _).mono ?_
    rintro e w3 ⟨rfl, hb⟩
    have B3 := Lib.hid (B2.out.trans (hb.mono B2.out.size)); clear hb
    go_wp2_with fail
    refine (C4.out _).mono ?_
    rintro e w4 ⟨rfl, hb⟩
    have B4 := Lib.hid (B3.out.trans (hb.mono B3.out.size)); clear hb
    go_wp2_with fail
    refine (C5.out _).mono ?_
    rintro e w5 ⟨rfl, hb⟩
    have B5 := Lib.hid (B4.out.trans (hb.mono B4.out.size)); clear hb
    go_wp2_with fail
    refine (C6.out _).mono ?_
    rintro e w6 ⟨rfl, hb⟩
    have B6 := Lib.hid (B5.out.trans (hb.mono B5.out.size)); clear hb
    go_wp2_with fail
    refine (C7.out _).mono ?_
    rintro e w7 ⟨rfl, hb⟩
    have B7 := Lib.hid (B6.out.trans (hb.mono B6.out.size)); clear hb
    go_wp2_with fail
    refine (C8.out _ B7.out).mono ?_
    rintro e w8 ⟨rfl, hb⟩
    have B8 := Lib.hid (B7.out.trans (hb.mono B7.out.size)); clear hb
    go_wp2_with fail
    refine (C9.out _ B8.out).mono ?_
    rintro e w9 ⟨rfl, hb⟩
    have B9 := Lib.hid (B8.out.trans (hb.mono B8.out.size)); clear hb
    go_wp2_with fail
    refine (G.out _).mono ?_
    rintro e w10 ⟨rfl, hb⟩
    have B10 := Lib.hid (B9.out.trans (hb.mono B9.out.size)); clear hb
    go_wp2_with fail
    go_ret
    exact ⟨rfl, B10.out⟩
  | false =>
    rw [hm] at C7
    rw [ne_f hm] at C3
    generalize na (a * b) = m1 at *
    clear hm
    go_enter Try.func3, Try.ntmps3
    go_wp2_with fail
    refine (C1.out _).mono ?_
    rintro e w1 ⟨rfl, hb⟩
    have B1 := Lib.hid (B0.out.trans (hb.mono B0.out.size)); clear hb
    go_wp2_with fail
    refine (C2.out _).mono ?_
    rintro e w2 ⟨rfl, hb⟩
    have B2 := Lib.hid ((B1.out.alloc B1.out.size _).trans (hb.mono (Nat.le_trans B1.out.size (by simp)))); clear hb
    go_wp2_with fail
    refine (C3.out _).mono ?_
    rintro e w3 ⟨rfl, hb⟩
    have B3 := Lib.hid (B2.out.trans (hb.mono B2.out.size)); clear hb
    go_wp2_with fail
    refine (C4.out _).mono ?_
    rintro e w4 ⟨rfl, hb⟩
    have B4 := Lib.hid (B3.out.trans (hb.mono B3.out.size)); clear hb
    go_wp2_with fail
    refine (C5.out _).mono ?_
    rintro e w5 ⟨rfl, hb⟩
    have B5 := Lib.hid (B4.out.trans (hb.mono B4.out.size)); clear hb
    go_wp2_with fail
    refine (C6.out _).mono ?_
    rintro e w6 ⟨rfl, hb⟩
    have B6 := Lib.hid (B5.out.trans (hb.mono B5.out.size)); clear hb
    go_wp2_with fail
    refine (C7.out _).mono ?_
    rintro e w7 ⟨rfl, hb⟩
    have B7 := Lib.hid (B6.out.trans (hb.mono B6.out.size)); clear hb
    go_wp2_with fail
    refine (C8.out _ B7.out).mono ?_
    rintro e w8 ⟨rfl, hb⟩
    have B8 := Lib.hid (B7.out.trans (hb.mono B7.out.size)); clear hb
    go_wp2_with fail
    refine (C9.out _ B8.out).mono ?_
    rintro e w9 ⟨rfl, hb⟩
    have B9 := Lib.hid (B8.out.trans (hb.mono B8.out.size)); clear hb
    go_wp2_with fail
    refine (G.out _).mono ?_
    rintro e w10 ⟨rfl, hb⟩
    have B10 := Lib.hid (B9.out.trans (hb.mono B9.out.size)); clear hb
    go_wp2_with fail
    go_ret
    exact ⟨rfl, B10.out⟩
end Go.Proofs.Ytleafhedkmajjaa
