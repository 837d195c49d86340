import Derived.Test.YthaleikmdoijbaaTA3
namespace Go.Proofs.Ythaleikmdoijbaa
set_option linter.unusedVariables false
set_option linter.unusedSimpArgs false
set_option maxRecDepth 8000
open Go.RowKit Mem Mo Ti
set_option maxHeartbeats 4000000 in
theorem tiersAll_walk (A : Option Addr) (len c : Nat) (f : Nat → Nat → Value) (n : Int) (w : World) {fs : Array Field} (hu : Try.prog.underlying 27 = some (.struct fs)) (hf : Structs Try.prog w w.heap.size fs A len c f) (_hn : (Lit.int .i64 n).wf = true) :
    Calls Try.prog 3 #[.slice A len c, .int .i64 n] w fun e w' => e = .returned (.bool true) ∧ Below w.heap.size w w' := by
  obtain ⟨u, p, hr, hb⟩ := tiers_of hu hf
  have hn := i64_bd _hn
  clear hf hu _hn
  have G := Lib.hid (fun W => goes_any W)
  have B0 := Lib.hid (Below.refl w.heap.size w)
  by_cases h1 : 20 < len
  · have z1 : (20 < (len : Int)) = True := by simp; omega
    clear hr hb hn h1
    go_enter Try.func3, Try.ntmps3
    go_wp2_with fail
    go_ret
    exact ⟨rfl, B0.out⟩
  have z1 : (20 < (len : Int)) = False := by simp; omega
  have hl20 : len ≤ 20 := by omega
  have C1 := Lib.hid (fun A' c' W B (h : RdT W B A' c' u p len) (hB : B ≤ W.heap.size) => Price_any A' c' len u p n W B h hB hn.2)
  have C2 := Lib.hid (fun W (h : Below w.heap.size w W) => RPrice_any A c len u p n W w.heap.size (hr.below h) h.size hn.2)
  have C3 := Lib.hid (fun W (h : Below w.heap.size w W) => Check_any A c len u p W w.heap.size (hr.below h) h.size)
  have C4 := Lib.hid (fun W (h : Below w.heap.size w W) => RCheck_any A c len u p W w.heap.size (hr.below h) h.size)
  have HR := Lib.hid hr
  have hcap : len ≤ c := hr.1
  generalize pca (okB u p len) n u p len = v1 at *
  generalize pce (okB u p len) n u p len = v2 at *
  generalize okB u p len = v3 at *
  clear hr hb hn h1
  have hO0 : Hid ((w.alloc (.cells #[] 27)).ownsRow w.heap.size 27 2 (.slice (some ⟨w.heap.size, 0, none⟩) 0 0) 0 []) := Lib.hid (World.ownsRow_lit (size := 2) (e := 27) w #[] 0 (Nat.le_refl _) (by unfold maxLen; omega) (by simp))
  have hRA := Lib.hid (HR.out.below ((Below.refl w.heap.size w).alloc (Nat.le_refl _) (.cells #[] 27)))
  go_enter Try.func3, Try.ntmps3
  go_wp2_with (at_builtin; refine wpList_append_t rfl _ _ rfl w.heap.size _ rfl hO0.out A c len u p w.heap.size rfl hRA.out (by omega) (by simp) ?_; intro v w1 hown hg)
  have B1 := Lib.hid (((Below.refl w.heap.size w).alloc (Nat.le_refl _) _).grown hg (by simp) (fun k hk => by cases hk; exact Nat.le_refl _))
  obtain ⟨A', c', rfl, hr1⟩ := ownT_form hown
  have HR1 := Lib.hid hr1
  have hcap1 : len ≤ c' := hr1.1
  clear hown hg hr1
  go_wp2_with fail
  refine (C1.out A' c' w1 w1.heap.size HR1.out (Nat.le_refl _)).mono ?_
  rintro e w2 ⟨rfl, hb⟩
  have B2 := Lib.hid (B1.out.trans (hb.mono B1.out.size))
  have E2 := Lib.hid hb; clear hb
  go_wp2_with fail
  refine (C2.out w2 B2.out).mono ?_
  rintro e w3 ⟨rfl, hb⟩
  have B3 := Lib.hid (B2.out.trans (hb.mono B2.out.size))
  have E3 := Lib.hid (E2.out.trans (hb.mono E2.out.size)); clear hb
  go_wp2_with fail
  go_loopw [10] (fun v wr => ∃ k : Nat, k ≤ len ∧ v = .int .i64 k ∧ Hid (Below w.heap.size w wr) ∧ Hid (Below w1.heap.size w1 wr)) (fun v _ => len - (intOf v).toNat)
  · exact ⟨0, by omega, rfl, B3, E3⟩
  · obtain ⟨k, hk, rfl, HX, HY⟩ := hrel
    by_cases hkn : k < len
    · obtain ⟨b, o, rfl, _, hc⟩ := (HR.out.below HX.out).2.2 (by omega)
      obtain ⟨b', o', rfl, _, hc'⟩ := (HR1.out.below HY.out).2.2 (by omega)
      obtain ⟨e1, e2⟩ := hc k hkn
      obtain ⟨e3, e4⟩ := hc' k hkn
      obtain ⟨x, hx⟩ := named (u k)
      obtain ⟨q, hq⟩ := named (p k)
      rw [hx] at e1 e3
      rw [hq] at e2 e4
      clear hc hc' hx hq C1 C2 C3 C4
      go_wp2_with fail
      go_quiet (fail)
      rename_i nq
      go_wp2_with fail
      go_roundw
      case rel => exact ⟨k + 1, by omega, by go_num, Lib.hid (below_drewN HX.out nq), Lib.hid (below_drewN HY.out nq)⟩
      case measure => simp [intOf]; omega
    · obtain rfl : k = len := by omega
      go_wp2_with fail
      refine (C3.out _ HX.out).mono ?_
      rintro e w4 ⟨rfl, hb⟩
      have B4 := Lib.hid (HX.out.trans (hb.mono HX.out.size)); clear hb
      go_wp2_with fail
      refine (C4.out _ B4.out).mono ?_
      rintro e w5 ⟨rfl, hb⟩
      have B5 := Lib.hid (B4.out.trans (hb.mono B4.out.size)); clear hb
      go_wp2_with fail
      refine (G.out _).mono ?_
      rintro e w6 ⟨rfl, hb⟩
      have B6 := Lib.hid (B5.out.trans (hb.mono B5.out.size)); clear hb
      go_wp2_with fail
      go_ret
      exact ⟨rfl, B6.out⟩
end Go.Proofs.Ythaleikmdoijbaa
