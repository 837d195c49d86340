import Derived.Test.YthaleikmdoijbaaTi7
namespace Go.Proofs.Ythaleikmdoijbaa
set_option linter.unusedVariables false
set_option linter.unusedSimpArgs false
set_option maxRecDepth 8000
open Go.RowKit Mem Mo Ti
theorem one_ok {price : Int} : okB (uOf [(0, price)]) (pOf [(0, price)]) 1 = decide (0 ≤ price ∧ price ≤ 1125899906842624) := by
  rw [Bool.eq_iff_iff, okB_iff]
  simp only [decide_eq_true_eq]
  exact ⟨fun h => h.prc 0 (by omega), fun h => ⟨by omega, by omega, fun k hk => by omega, rfl, fun k hk => by rw [show k = 0 by omega]; exact h⟩⟩
theorem one_cst (price n : Int) : cst n (uOf [(0, price)]) (pOf [(0, price)]) 1 = price * n := by
  show 0 + price * (en n 0 - 0) = _
  unfold en; simp
theorem two_cst (price at' n : Int) : cst n (uOf [(at', price), (0, price)]) (pOf [(at', price), (0, price)]) 2 = price * n := by
  show 0 + price * (en n at' - 0) + price * (en n 0 - en n at') = _
  rw [show en n 0 = n by unfold en; simp, Int.mul_sub, Int.mul_sub]; omega
set_option maxHeartbeats 2000000 in
theorem tiersOne_walk (price at' n : Int) (w : World) (_h1 : (Lit.int .i64 price).wf = true) (_h2 : (Lit.int .i64 at').wf = true) (_h3 : (Lit.int .i64 n).wf = true) :
    Calls Try.prog 6 #[.int .i64 price, .int .i64 at', .int .i64 n] w fun e w' => e = .returned (.bool true) ∧ Below w.heap.size w w' := by
  have h1 := i64_bd _h1
  have h3 := i64_bd _h3
  clear _h1 _h2 _h3
  have G := Lib.hid (fun W => goes_any W)
  have r1 : RdT ((w.alloc (.cells (flat [(0, price)]).toArray 27)).alloc (.cells (flat [(at', price), (0, price)]).toArray 27)) (w.heap.size + 2) (some ⟨w.heap.size, 0, none⟩) 1 (uOf [(0, price)]) (pOf [(0, price)]) 1 :=
    ((RdT.lit w [(0, price)] (by simp) 27).below ((Below.refl _ _).alloc (by simp) _)).more (by omega)
  have r2 : RdT ((w.alloc (.cells (flat [(0, price)]).toArray 27)).alloc (.cells (flat [(at', price), (0, price)]).toArray 27)) (w.heap.size + 2) (some ⟨w.heap.size + 1, 0, none⟩) 2 (uOf [(at', price), (0, price)]) (pOf [(at', price), (0, price)]) 2 := by
    have := (RdT.lit (w.alloc (.cells (flat [(0, price)]).toArray 27)) [(at', price), (0, price)] (by simp) 27)
    rw [World.size_alloc] at this
    exact this.more (by omega)
  have HS : ∀ W, Below (w.heap.size + 2) ((w.alloc (.cells (flat [(0, price)]).toArray 27)).alloc (.cells (flat [(at', price), (0, price)]).toArray 27)) W → w.heap.size + 2 ≤ W.heap.size := fun W h => by have := h.size; simp at this; omega
  have HF := Lib.hid (fun W (h : Below (w.heap.size + 2) ((w.alloc (.cells (flat [(0, price)]).toArray 27)).alloc (.cells (flat [(at', price), (0, price)]).toArray 27)) W) => (((Below.refl w.heap.size w).alloc (Nat.le_refl _) _).alloc (by simp) _).trans (h.mono (by omega)))
  have C1 := Lib.hid (fun W h => Price_any (some ⟨w.heap.size, 0, none⟩) 1 1 (uOf [(0, price)]) (pOf [(0, price)]) n W (w.heap.size + 2) (r1.below h) (HS W h) (by omega))
  have C2 := Lib.hid (fun W h => Price_any (some ⟨w.heap.size + 1, 0, none⟩) 2 2 (uOf [(at', price), (0, price)]) (pOf [(at', price), (0, price)]) n W (w.heap.size + 2) (r2.below h) (HS W h) (by omega))
  have C3 := Lib.hid (fun W h => Check_any (some ⟨w.heap.size + 1, 0, none⟩) 2 2 (uOf [(at', price), (0, price)]) (pOf [(at', price), (0, price)]) W (w.heap.size + 2) (r2.below h) (HS W h))
  have CM := Lib.hid (fun W => Mul_any price n W (by omega) (by omega) (by omega) (by omega))
  have D0 := Lib.hid (Below.refl (w.heap.size + 2) ((w.alloc (.cells (flat [(0, price)]).toArray 27)).alloc (.cells (flat [(at', price), (0, price)]).toArray 27)))
  have SZ : w.heap.size + 2 ≤ ((w.alloc (.cells (flat [(0, price)]).toArray 27)).alloc (.cells (flat [(at', price), (0, price)]).toArray 27)).heap.size := by simp
  clear r1 r2 HS
  cases ho : okB (uOf [(at', price), (0, price)]) (pOf [(at', price), (0, price)]) 2 with
  | false =>
    rw [ho] at C2 C3
    rw [show pca false n (uOf [(at', price), (0, price)]) (pOf [(at', price), (0, price)]) 2 = 0 from rfl, show pce false n (uOf [(at', price), (0, price)]) (pOf [(at', price), (0, price)]) 2 = 1 from rfl] at C2
    generalize pca (okB (uOf [(0, price)]) (pOf [(0, price)]) 1) n (uOf [(0, price)]) (pOf [(0, price)]) 1 = a1 at *
    generalize pce (okB (uOf [(0, price)]) (pOf [(0, price)]) 1) n (uOf [(0, price)]) (pOf [(0, price)]) 1 = e1 at *
    clear ho h1 h3 CM
    go_enter Try.func6, Try.ntmps6
    go_wp2_with fail
    refine (C1.out _ D0.out).mono ?_
    rintro e w1 ⟨rfl, hb⟩
    have D1 := Lib.hid (D0.out.trans (hb.mono (Nat.le_trans SZ D0.out.size))); clear hb
    go_wp2_with fail
    refine (C2.out _ D1.out).mono ?_
    rintro e w2 ⟨rfl, hb⟩
    have D2 := Lib.hid (D1.out.trans (hb.mono (Nat.le_trans SZ D1.out.size))); clear hb
    go_wp2_with fail
    refine (C3.out _ D2.out).mono ?_
    rintro e w3 ⟨rfl, hb⟩
    have D3 := Lib.hid (D2.out.trans (hb.mono (Nat.le_trans SZ D2.out.size))); clear hb
    go_wp2_with fail
    refine (G.out _).mono ?_
    rintro e w4 ⟨rfl, hb⟩
    have D4 := Lib.hid (D3.out.trans (hb.mono (Nat.le_trans SZ D3.out.size))); clear hb
    go_wp2_with fail
    go_ret
    exact ⟨rfl, HF.out _ D4.out⟩
  | true =>
    have hk := okB_iff.1 ho
    have hp : 0 ≤ price ∧ price ≤ 1125899906842624 := hk.prc 0 (by omega)
    have ho1 : okB (uOf [(0, price)]) (pOf [(0, price)]) 1 = true := by rw [one_ok]; simp; omega
    rw [ho] at C2 C3
    rw [ho1] at C1
    unfold pca pce at C1 C2
    rw [one_cst] at C1
    rw [two_cst] at C2
    by_cases h2 : n < 0
    · have z2 : (n < 0) = True := by simp [h2]
      rw [show (true && decide (0 ≤ n)) = false by simp; omega] at C1 C2
      simp only [Bool.false_eq_true, if_false] at C1 C2
      generalize na (price * n) = a1 at *
      generalize ne (price * n) = e1 at *
      clear ho h1 h3 hk hp ho1 h2
      go_enter Try.func6, Try.ntmps6
      go_wp2_with fail
      refine (C1.out _ D0.out).mono ?_
      rintro e w1 ⟨rfl, hb⟩
      have D1 := Lib.hid (D0.out.trans (hb.mono (Nat.le_trans SZ D0.out.size))); clear hb
      go_wp2_with fail
      refine (C2.out _ D1.out).mono ?_
      rintro e w2 ⟨rfl, hb⟩
      have D2 := Lib.hid (D1.out.trans (hb.mono (Nat.le_trans SZ D1.out.size))); clear hb
      go_wp2_with fail
      refine (C3.out _ D2.out).mono ?_
      rintro e w3 ⟨rfl, hb⟩
      have D3 := Lib.hid (D2.out.trans (hb.mono (Nat.le_trans SZ D2.out.size))); clear hb
      go_wp2_with fail
      refine (CM.out _).mono ?_
      rintro e w4 ⟨rfl, hb⟩
      have D4 := Lib.hid (D3.out.trans (hb.mono (Nat.le_trans SZ D3.out.size))); clear hb
      go_wp2_with fail
      refine (G.out _).mono ?_
      rintro e w5 ⟨rfl, hb⟩
      have D5 := Lib.hid (D4.out.trans (hb.mono (Nat.le_trans SZ D4.out.size))); clear hb
      go_wp2_with fail
      go_ret
      exact ⟨rfl, HF.out _ D5.out⟩
    · have z2 : (n < 0) = False := by simp; omega
      rw [show (true && decide (0 ≤ n)) = true by simp; omega] at C1 C2
      simp only [if_true] at C1 C2
      cases hi : isn (price * n) with
      | true =>
        rw [ne_t hi] at C1 C2 CM
        generalize na (price * n) = a1 at *
        clear ho h1 h3 hk hp ho1 h2 hi
        go_enter Try.func6, Try.ntmps6
        go_wp2_with fail
        refine (C1.out _ D0.out).mono ?_
        rintro e w1 ⟨rfl, hb⟩
        have D1 := Lib.hid (D0.out.trans (hb.mono (Nat.le_trans SZ D0.out.size))); clear hb
        go_wp2_with fail
        refine (C2.out _ D1.out).mono ?_
        rintro e w2 ⟨rfl, hb⟩
        have D2 := Lib.hid (D1.out.trans (hb.mono (Nat.le_trans SZ D1.out.size))); clear hb
        go_wp2_with fail
        refine (C3.out _ D2.out).mono ?_
        rintro e w3 ⟨rfl, hb⟩
        have D3 := Lib.hid (D2.out.trans (hb.mono (Nat.le_trans SZ D2.out.size))); clear hb
        go_wp2_with fail
        refine (CM.out _).mono ?_
        rintro e w4 ⟨rfl, hb⟩
        have D4 := Lib.hid (D3.out.trans (hb.mono (Nat.le_trans SZ D3.out.size))); clear hb
        go_wp2_with fail
        refine (G.out _).mono ?_
        rintro e w5 ⟨rfl, hb⟩
        have D5 := Lib.hid (D4.out.trans (hb.mono (Nat.le_trans SZ D4.out.size))); clear hb
        go_wp2_with fail
        go_ret
        exact ⟨rfl, HF.out _ D5.out⟩
      | false =>
        rw [ne_f hi] at C1 C2 CM
        generalize na (price * n) = a1 at *
        clear ho h1 h3 hk hp ho1 h2 hi
        go_enter Try.func6, Try.ntmps6
        go_wp2_with fail
        refine (C1.out _ D0.out).mono ?_
        rintro e w1 ⟨rfl, hb⟩
        have D1 := Lib.hid (D0.out.trans (hb.mono (Nat.le_trans SZ D0.out.size))); clear hb
        go_wp2_with fail
        refine (C2.out _ D1.out).mono ?_
        rintro e w2 ⟨rfl, hb⟩
        have D2 := Lib.hid (D1.out.trans (hb.mono (Nat.le_trans SZ D1.out.size))); clear hb
        go_wp2_with fail
        refine (C3.out _ D2.out).mono ?_
        rintro e w3 ⟨rfl, hb⟩
        have D3 := Lib.hid (D2.out.trans (hb.mono (Nat.le_trans SZ D2.out.size))); clear hb
        go_wp2_with fail
        refine (CM.out _).mono ?_
        rintro e w4 ⟨rfl, hb⟩
        have D4 := Lib.hid (D3.out.trans (hb.mono (Nat.le_trans SZ D3.out.size))); clear hb
        go_wp2_with fail
        refine (G.out _).mono ?_
        rintro e w5 ⟨rfl, hb⟩
        have D5 := Lib.hid (D4.out.trans (hb.mono (Nat.le_trans SZ D4.out.size))); clear hb
        go_wp2_with fail
        go_ret
        exact ⟨rfl, HF.out _ D5.out⟩
end Go.Proofs.Ythaleikmdoijbaa
