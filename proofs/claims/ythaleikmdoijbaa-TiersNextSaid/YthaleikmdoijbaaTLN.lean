import Derived.Test.YthaleikmdoijbaaTi7
namespace Go.Proofs.Ythaleikmdoijbaa
set_option linter.unusedVariables false
set_option linter.unusedSimpArgs false
set_option maxRecDepth 8000
open Go.RowKit Mem Mo Ti
set_option maxHeartbeats 2000000 in
theorem tiersNext_walk (A : Option Addr) (len c : Nat) (f : Nat → Nat → Value) (n : Int) (w : World) {fs : Array Field} (hu : Try.prog.underlying 27 = some (.struct fs)) (hf : Structs Try.prog w w.heap.size fs A len c f) (_hn : (Lit.int .i64 n).wf = true) :
    Calls Try.prog 4 #[.slice A len c, .int .i64 n] w fun e w' => e = .returned (.bool true) ∧ Below w.heap.size w w' := by
  obtain ⟨u, p, hr, hb⟩ := tiers_of hu hf
  have hn := i64_bd _hn
  clear hf hu _hn
  have G := Lib.hid (fun W => goes_any W)
  have B0 := Lib.hid (Below.refl w.heap.size w)
  by_cases h1 : 20 < len
  · have z1 : (20 < (len : Int)) = True := by simp; omega
    clear hr hb hn h1
    go_enter Try.func4, Try.ntmps4
    go_wp2_with fail
    refine (G.out _).mono ?_
    rintro e w1 ⟨rfl, hb⟩
    have B1 := Lib.hid (B0.out.trans (hb.mono B0.out.size)); clear hb
    go_wp2_with fail
    go_ret
    exact ⟨rfl, B1.out⟩
  have z1 : (20 < (len : Int)) = False := by simp; omega
  have CC := Lib.hid (fun W (h : Below w.heap.size w W) => Check_any A c len u p W w.heap.size (hr.below h) h.size)
  have CP := Lib.hid (fun W (h : Below w.heap.size w W) k (hk : k ≤ 9223372036854775807) => Price_any A c len u p k W w.heap.size (hr.below h) h.size hk)
  have CA := Lib.hid (fun W (h : Below w.heap.size w W) k => At_any A c len u p k W w.heap.size (hr.below h) h.size)
  clear hr
  cases ho : okB u p len with
  | false =>
    rw [ho] at CC
    clear CP CA hb hn h1 ho
    go_enter Try.func4, Try.ntmps4
    go_wp2_with fail
    refine (CC.out _ B0.out).mono ?_
    rintro e w1 ⟨rfl, hb⟩
    have B1 := Lib.hid (B0.out.trans (hb.mono B0.out.size)); clear hb
    go_wp2_with fail
    refine (G.out _).mono ?_
    rintro e w2 ⟨rfl, hb⟩
    have B2 := Lib.hid (B1.out.trans (hb.mono B1.out.size)); clear hb
    go_wp2_with fail
    go_ret
    exact ⟨rfl, B2.out⟩
  | true =>
    rw [ho] at CC CP
    have hok := okB_iff.1 ho
    clear ho h1 hb
    by_cases h2 : n < 0
    · have z2 : (n < 0) = True := by simp [h2]
      clear CP CA hn h2 hok
      go_enter Try.func4, Try.ntmps4
      go_wp2_with fail
      refine (CC.out _ B0.out).mono ?_
      rintro e w1 ⟨rfl, hb⟩
      have B1 := Lib.hid (B0.out.trans (hb.mono B0.out.size)); clear hb
      go_wp2_with fail
      refine (G.out _).mono ?_
      rintro e w2 ⟨rfl, hb⟩
      have B2 := Lib.hid (B1.out.trans (hb.mono B1.out.size)); clear hb
      go_wp2_with fail
      go_ret
      exact ⟨rfl, B2.out⟩
    have z2 : (n < 0) = False := by simp; omega
    by_cases h3 : n = 9223372036854775807
    · subst h3
      clear CP CA hn h2 hok
      go_enter Try.func4, Try.ntmps4
      go_wp2_with fail
      refine (CC.out _ B0.out).mono ?_
      rintro e w1 ⟨rfl, hb⟩
      have B1 := Lib.hid (B0.out.trans (hb.mono B0.out.size)); clear hb
      go_wp2_with fail
      refine (G.out _).mono ?_
      rintro e w2 ⟨rfl, hb⟩
      have B2 := Lib.hid (B1.out.trans (hb.mono B1.out.size)); clear hb
      go_wp2_with fail
      go_ret
      exact ⟨rfl, B2.out⟩
    have z3 : (n == 9223372036854775807) = false := by simp [h3]
    have i1 : IntKind.i64.wrap (n + 1) = n + 1 := by rw [IntKind.wrap_i64]; omega
    have C1 := Lib.hid (fun W h => CP.out W h n (by omega))
    have C2 := Lib.hid (fun W h => CP.out W h (n + 1) (by omega))
    have C3 := Lib.hid (fun W h => CP.out W h 0 (by omega))
    have CA1 := Lib.hid (fun W h => CA.out W h (n + 1))
    have ez : pca true 0 u p len = 0 ∧ pce true 0 u p len = 0 := by unfold pca pce; rw [hok.cst_nought len (Nat.le_refl _)]; exact ⟨by decide, by decide⟩
    rw [ez.1, ez.2] at C3
    have en0 := hok.next (n := n) (by omega)
    have ep : pca true n u p len = na (cst n u p len) ∧ pce true n u p len = ne (cst n u p len) := by unfold pca pce; rw [show (true && decide (0 ≤ n)) = true by simp; omega]; exact ⟨rfl, rfl⟩
    have eq : pca true (n + 1) u p len = na (cst (n + 1) u p len) ∧ pce true (n + 1) u p len = ne (cst (n + 1) u p len) := by unfold pca pce; rw [show (true && decide (0 ≤ n + 1)) = true by simp; omega]; exact ⟨rfl, rfl⟩
    rw [ep.1, ep.2] at C1
    rw [eq.1, eq.2, en0] at C2
    have h0 := hok.cst0 (n := n) (by omega) (Nat.le_refl len)
    have ha := hok.att_bd (n + 1)
    obtain ⟨T, hT⟩ := named (cst n u p len)
    obtain ⟨a, haa⟩ := named (att u p (n + 1) 0 len)
    rw [hT] at C1 C2 h0
    rw [haa] at C2 CA1 ha
    clear CP CA hn h2 hok h3 ez en0 ep eq hT haa
    by_cases h4 : 9223372036854775807 < T
    · have hf1 : isn T = false := by unfold isn; simp; omega
      have hf2 : isn (T + a) = false := by unfold isn; simp; omega
      rw [na_f hf1, ne_f hf1] at C1
      rw [na_f hf2, ne_f hf2] at C2
      clear h4 hf1 hf2 ha h0
      go_enter Try.func4, Try.ntmps4
      go_wp2_with fail
      refine (CC.out _ B0.out).mono ?_
      rintro e w1 ⟨rfl, hb⟩
      have B1 := Lib.hid (B0.out.trans (hb.mono B0.out.size)); clear hb
      go_wp2_with fail
      refine (C1.out _ B1.out).mono ?_
      rintro e w2 ⟨rfl, hb⟩
      have B2 := Lib.hid (B1.out.trans (hb.mono B1.out.size)); clear hb
      go_wp2_with fail
      refine (C2.out _ B2.out).mono ?_
      rintro e w3 ⟨rfl, hb⟩
      have B3 := Lib.hid (B2.out.trans (hb.mono B2.out.size)); clear hb
      go_wp2_with fail
      refine (C3.out _ B3.out).mono ?_
      rintro e w4 ⟨rfl, hb⟩
      have B4 := Lib.hid (B3.out.trans (hb.mono B3.out.size)); clear hb
      go_wp2_with fail
      refine (G.out _).mono ?_
      rintro e w5 ⟨rfl, hb⟩
      have B5 := Lib.hid (B4.out.trans (hb.mono B4.out.size)); clear hb
      go_wp2_with fail
      go_ret
      exact ⟨rfl, B5.out⟩
    · have ht1 : isn T = true := by unfold isn; simp; omega
      rw [na_t ht1, ne_t ht1] at C1
      have CD := Lib.hid (fun W => Add_any T a W (by omega) (by omega) (by omega) (by omega))
      cases ht2 : isn (T + a) with
      | true =>
        rw [ne_t ht2] at C2 CD
        generalize na (T + a) = S at *
        clear h4 ht1 ht2 ha h0
        go_enter Try.func4, Try.ntmps4
        go_wp2_with fail
        refine (CC.out _ B0.out).mono ?_
        rintro e w1 ⟨rfl, hb⟩
        have B1 := Lib.hid (B0.out.trans (hb.mono B0.out.size)); clear hb
        go_wp2_with fail
        refine (C1.out _ B1.out).mono ?_
        rintro e w2 ⟨rfl, hb⟩
        have B2 := Lib.hid (B1.out.trans (hb.mono B1.out.size)); clear hb
        go_wp2_with fail
        refine (C2.out _ B2.out).mono ?_
        rintro e w3 ⟨rfl, hb⟩
        have B3 := Lib.hid (B2.out.trans (hb.mono B2.out.size)); clear hb
        go_wp2_with fail
        refine (C3.out _ B3.out).mono ?_
        rintro e w4 ⟨rfl, hb⟩
        have B4 := Lib.hid (B3.out.trans (hb.mono B3.out.size)); clear hb
        go_wp2_with fail
        refine (CA1.out _ B4.out).mono ?_
        rintro e w5 ⟨rfl, hb⟩
        have B5 := Lib.hid (B4.out.trans (hb.mono B4.out.size)); clear hb
        go_wp2_with fail
        refine (CD.out _).mono ?_
        rintro e w6 ⟨rfl, hb⟩
        have B6 := Lib.hid (B5.out.trans (hb.mono B5.out.size)); clear hb
        go_wp2_with fail
        refine (G.out _).mono ?_
        rintro e w7 ⟨rfl, hb⟩
        have B7 := Lib.hid (B6.out.trans (hb.mono B6.out.size)); clear hb
        go_wp2_with fail
        go_ret
        exact ⟨rfl, B7.out⟩
      | false =>
        rw [ne_f ht2] at C2 CD
        generalize na (T + a) = S at *
        clear h4 ht1 ht2 ha h0
        go_enter Try.func4, Try.ntmps4
        go_wp2_with fail
        refine (CC.out _ B0.out).mono ?_
        rintro e w1 ⟨rfl, hb⟩
        have B1 := Lib.hid (B0.out.trans (hb.mono B0.out.size)); clear hb
        go_wp2_with fail
        refine (C1.out _ B1.out).mono ?_
        rintro e w2 ⟨rfl, hb⟩
        have B2 := Lib.hid (B1.out.trans (hb.mono B1.out.size)); clear hb
        go_wp2_with fail
        refine (C2.out _ B2.out).mono ?_
        rintro e w3 ⟨rfl, hb⟩
        have B3 := Lib.hid (B2.out.trans (hb.mono B2.out.size)); clear hb
        go_wp2_with fail
        refine (C3.out _ B3.out).mono ?_
        rintro e w4 ⟨rfl, hb⟩
        have B4 := Lib.hid (B3.out.trans (hb.mono B3.out.size)); clear hb
        go_wp2_with fail
        refine (CA1.out _ B4.out).mono ?_
        rintro e w5 ⟨rfl, hb⟩
        have B5 := Lib.hid (B4.out.trans (hb.mono B4.out.size)); clear hb
        go_wp2_with fail
        refine (CD.out _).mono ?_
        rintro e w6 ⟨rfl, hb⟩
        have B6 := Lib.hid (B5.out.trans (hb.mono B5.out.size)); clear hb
        go_wp2_with fail
        refine (G.out _).mono ?_
        rintro e w7 ⟨rfl, hb⟩
        have B7 := Lib.hid (B6.out.trans (hb.mono B6.out.size)); clear hb
        go_wp2_with fail
        go_ret
        exact ⟨rfl, B7.out⟩
end Go.Proofs.Ythaleikmdoijbaa
