import Derived.Test.YtbiofjddclbncaaSs9
namespace Go.Proofs.Ytbiofjddclbncaa
set_option linter.unusedVariables false
set_option linter.unusedSimpArgs false
set_option maxRecDepth 8000
open Go.RowKit Mem Mo Sr
theorem i64_bd {x : Int} (h : (Lit.int .i64 x).wf = true) : -9223372036854775808 ≤ x ∧ x ≤ 9223372036854775807 := by
  simpa [Lit.wf, IntKind.min, IntKind.max, IntKind.bits, IntKind.signed] using h
set_option maxHeartbeats 1000000 in
theorem shareSplits_walk (T : Int) (A : Option Addr) (len c : Nat) (l : List Int) (hl : l.length = len) (w : World) (hT : (Lit.int .i64 T).wf = true) (hr : RdI w w.heap.size A c l ∧ ∀ x ∈ l, -9223372036854775808 ≤ x ∧ x ≤ 9223372036854775807) :
    Calls Try.prog 3 #[.int .i64 T, .slice A len c] w fun e w' => e = .returned (.bool true) ∧ Below w.heap.size w w' := by
  have hTb := i64_bd hT
  have HR := Lib.hid hr.1
  have HNm := Lib.hid (show Nums l from hr.2)
  have G := Lib.hid (fun W => goes_any W)
  have hcm : l.length ≤ maxLen := by have := hr.1.1; have := hr.1.2.1; omega
  unfold maxLen at hcm
  subst hl
  by_cases h1 : 200 < l.length
  · have z1 : (200 < (l.length : Int)) = True := eq_true (by omega)
    obtain ⟨n, hn⟩ := named l.length
    rw [hn] at z1 ⊢
    clear hr hT hTb h1 hn hcm
    go_enter Try.func3, Try.ntmps3
    go_wp2_with fail
    go_ret
    exact ⟨rfl, Below.refl _ _⟩
  have z1 : (200 < (l.length : Int)) = False := eq_false (by omega)
  have SP := Lib.hid (fun A' c' W (h : RdI W W.heap.size A' c' l) => Split_any T A' c' l W W.heap.size h (Nat.le_refl _) hr.2 hTb)
  have RS := Lib.hid (fun A' c' W (h : RdI W W.heap.size A' c' l) => RSplit_any T A' c' l W h hr.2 hTb)
  have SA := Lib.hid (fun A1 c1 A2 c2 W h1 h2 => same_any A1 c1 (shl T l) A2 c2 (shl T l) W h1 h2)
  have SB := Lib.hid (fun A1 c1 A2 c2 W h1 h2 => same_any A1 c1 l A2 c2 l W h1 h2)
  rw [decide_eq_true rfl] at SA SB
  have hO0 : Hid (OwnJ 2 (w.alloc (.cells #[] 2)) w.heap.size (.slice (some ⟨w.heap.size, 0, none⟩) 0 0) []) := Lib.hid (OwnJ.lit 2 w [] w.heap.size (Nat.le_refl _) (by unfold maxLen; simp))
  have hRA := Lib.hid (HR.out.below (Ba w (.cells #[] 2)))
  have hl2 : l.length ≤ 200 := by omega
  have HLen := Lib.hid (show ([] : List Int).length + l.length ≤ 17592186044416 by simp; omega)
  obtain ⟨n, hn⟩ := named l.length
  have HN := Lib.hid hn
  rw [hn] at z1 SP RS SB ⊢
  unfold SpPost at SP RS
  obtain ⟨m, hm⟩ := named (shl T l).length
  rw [hm] at SP RS SA
  generalize spE T l = ev at *
  clear hr hT hTb h1 hl2 hcm hn hm
  go_enter Try.func3, Try.ntmps3
  go_upto_region 4 with (at_builtin; refine wpList_append_j ityL rfl _ _ rfl w.heap.size _ _ rfl hO0.out w.heap.size A n c l rfl HN.out.symm hRA.out HLen.out (by simp) ?_; intro v w1 hown hg hat)
  have B1 := Lib.hid ((Ba w (.cells #[] 2)).grown hg (by simp) (fun k hk => by cases hk; exact Nat.le_refl _))
  obtain ⟨A', c', hv, hr1, _⟩ := hown.form
  rw [List.nil_append] at hv hr1
  rw [HN.out] at hv
  subst hv
  have R1 := Lib.hid hr1
  clear hown hg hat hr1 hO0 hRA
  go_wp2_with fail
  refine (SP.out A' c' w1 R1.out).mono ?_
  rintro e w2 ⟨Aa, ca, rfl, hr, hb⟩
  have R2 := Lib.hid (Rb R1.out hb)
  have Ra := Lib.hid hr
  have B2 := Lib.hid (Bt B1.out hb)
  clear hr hb
  go_wp2_with fail
  refine (RS.out A c w2 (Rb HR.out B2.out)).mono ?_
  rintro e w3 ⟨Ab, cb, rfl, hr, hb⟩
  have R3 := Lib.hid (Rb R2.out hb)
  have Ra3 := Lib.hid (Rb Ra.out hb)
  have Rb3 := Lib.hid hr
  have B3 := Lib.hid (Bt B2.out hb)
  clear hr hb
  go_wp2_with fail
  refine (SA.out Aa ca Ab cb w3 Ra3.out Rb3.out).mono ?_
  rintro e w4 ⟨rfl, hb⟩
  have R4 := Lib.hid (Rb R3.out hb)
  have B4 := Lib.hid (Bt B3.out hb)
  clear hb
  go_wp2_with fail
  refine (SB.out A' c' A c w4 R4.out (Rb HR.out B4.out)).mono ?_
  rintro e w5 ⟨rfl, hb⟩
  have B5 := Lib.hid (Bt B4.out hb)
  clear hb
  go_wp2_with fail
  refine (G.out _).mono ?_
  rintro e w6 ⟨rfl, hb⟩
  have B6 := Lib.hid (Bt B5.out hb)
  clear hb
  go_wp2_with fail
  go_ret
  exact ⟨rfl, B6.out⟩
end Go.Proofs.Ytbiofjddclbncaa
