import Derived.Test.YtakjgimnmobngaaDoorPeA
namespace Go.Proofs.YtakjgimnmobngaaDoor
open Go.RowKit Mem Ci
set_option maxHeartbeats 2000000 in
theorem periodStarts_walk (q z s : Int) (w : World) (hw : Lens w) (_hq : (Lit.int .i64 q).wf = true) (_hz : (Lit.int .i64 z).wf = true) (_hs : (Lit.int .i64 s).wf = true) :
    Calls Tryd.prog 4 #[.int .i64 q, .int .i64 z, .int .i64 s] w fun e w' => e = .returned (.bool true) ∧ Below w.heap.size w w' := by
  have hs := lens_size hw
  have HL := Lib.hid (fun W (h : Below w.heap.size w W) => hw.below h hs); clear hw
  have G := Lib.hid (fun W (hB : Below w.heap.size w W) => pgoes_any W (HL.out _ hB))
  obtain ⟨b1, b2⟩ := i64_bd _hz; clear _hq _hz _hs hs
  have hs : ∃ a e : Int, Hid (∀ W (_ : Below w.heap.size w W), Calls Tryd.prog 16 #[.int .i64 q, .int .i64 s] W fun x w' => x = .returned (.tuple #[.int .i64 a, .int .i64 e]) ∧ Below W.heap.size W w') ∧
      Hid (∀ W, Calls Tryd.prog 17 #[.int .i64 q, .int .i64 s] W fun x w' => x = .returned (.tuple #[.int .i64 a, .int .i64 e]) ∧ Below W.heap.size W w') := by
    by_cases h : 12 ≤ q ∧ q ≤ 119999 ∧ shB s = true
    · exact ⟨_, _, Lib.hid (fun W hB => start_yes W (HL.out _ hB) h.1 h.2.1 h.2.2), Lib.hid (fun W => rstart_yes W h.1 h.2.1 h.2.2)⟩
    · exact ⟨_, _, Lib.hid (fun W hB => start_no W (HL.out _ hB) h), Lib.hid (fun W => rstart_no W h)⟩
  obtain ⟨a, e0, C1, C2⟩ := hs
  have K := Lib.hid (fun W => rcheck_any s W)
  by_cases hz : -719162 ≤ z ∧ z ≤ 2932896
  · obtain ⟨h1, h2⟩ := hz
    cases hv : shB s with
    | true =>
      have C3 := Lib.hid (fun W (hB : Below w.heap.size w W) => dawn_yes W (HL.out _ hB) h1 h2 hv)
      obtain ⟨s1, s2, _⟩ := sh_of hv
      have HV := Lib.hid hv; clear hv
      go_enter Tryd.func4, Tryd.ntmps4
      go_wp2_with fail
      refine (C1.out _ (Below.refl _ _)).mono ?_
      rintro e w1 ⟨rfl, hb⟩
      have B1 := Lib.hid hb
      clear hb
      go_wp2_with fail
      refine (C2.out _).mono ?_
      rintro e w2 ⟨rfl, hb⟩
      have B2 := Lib.hid (B1.out.trans (hb.mono B1.out.size))
      clear hb
      go_wp2_with fail
      refine (C3.out _ B2.out).mono ?_
      rintro e w3 ⟨rfl, hb⟩
      have B3 := Lib.hid (B2.out.trans (hb.mono B2.out.size))
      clear hb
      go_wp2_with fail
      refine (K.out _).mono ?_
      rintro e w4 ⟨rfl, rfl⟩
      rw [HV.out]
      go_wp2_with fail
      refine (G.out _ B3.out).mono ?_
      rintro e w5 ⟨rfl, hb⟩
      have B4 := Lib.hid (B3.out.trans (hb.mono B3.out.size))
      clear hb
      go_wp2_with fail
      go_ret
      exact ⟨rfl, B4.out⟩
    | false =>
      have C3 := Lib.hid (fun W (hB : Below w.heap.size w W) => dawn_no (z := z) W (HL.out _ hB) (fun h => by rw [hv] at h; cases h.2.2))
      have HV := Lib.hid hv; clear hv
      go_enter Tryd.func4, Tryd.ntmps4
      go_wp2_with fail
      refine (C1.out _ (Below.refl _ _)).mono ?_
      rintro e w1 ⟨rfl, hb⟩
      have B1 := Lib.hid hb
      clear hb
      go_wp2_with fail
      refine (C2.out _).mono ?_
      rintro e w2 ⟨rfl, hb⟩
      have B2 := Lib.hid (B1.out.trans (hb.mono B1.out.size))
      clear hb
      go_wp2_with fail
      refine (C3.out _ B2.out).mono ?_
      rintro e w3 ⟨rfl, hb⟩
      have B3 := Lib.hid (B2.out.trans (hb.mono B2.out.size))
      clear hb
      go_wp2_with fail
      refine (K.out _).mono ?_
      rintro e w4 ⟨rfl, rfl⟩
      rw [HV.out]
      go_wp2_with fail
      refine (G.out _ B3.out).mono ?_
      rintro e w5 ⟨rfl, hb⟩
      have B4 := Lib.hid (B3.out.trans (hb.mono B3.out.size))
      clear hb
      go_wp2_with fail
      go_ret
      exact ⟨rfl, B4.out⟩
  · have C3 := Lib.hid (fun W (hB : Below w.heap.size w W) => dawn_no (z := z) (s := s) W (HL.out _ hB) (fun h => hz ⟨h.1, h.2.1⟩))
    rcases (show z < -719162 ∨ (-719162 ≤ z ∧ 2932896 < z) by omega) with h | ⟨h0, h⟩
    · clear hz
      go_enter Tryd.func4, Tryd.ntmps4
      go_wp2_with fail
      refine (C1.out _ (Below.refl _ _)).mono ?_
      rintro e w1 ⟨rfl, hb⟩
      have B1 := Lib.hid hb
      clear hb
      go_wp2_with fail
      refine (C2.out _).mono ?_
      rintro e w2 ⟨rfl, hb⟩
      have B2 := Lib.hid (B1.out.trans (hb.mono B1.out.size))
      clear hb
      go_wp2_with fail
      refine (C3.out _ B2.out).mono ?_
      rintro e w3 ⟨rfl, hb⟩
      have B3 := Lib.hid (B2.out.trans (hb.mono B2.out.size))
      clear hb
      go_wp2_with fail
      refine (G.out _ B3.out).mono ?_
      rintro e w4 ⟨rfl, hb⟩
      have B4 := Lib.hid (B3.out.trans (hb.mono B3.out.size))
      clear hb
      go_wp2_with fail
      go_ret
      exact ⟨rfl, B4.out⟩
    · clear hz
      go_enter Tryd.func4, Tryd.ntmps4
      go_wp2_with fail
      refine (C1.out _ (Below.refl _ _)).mono ?_
      rintro e w1 ⟨rfl, hb⟩
      have B1 := Lib.hid hb
      clear hb
      go_wp2_with fail
      refine (C2.out _).mono ?_
      rintro e w2 ⟨rfl, hb⟩
      have B2 := Lib.hid (B1.out.trans (hb.mono B1.out.size))
      clear hb
      go_wp2_with fail
      refine (C3.out _ B2.out).mono ?_
      rintro e w3 ⟨rfl, hb⟩
      have B3 := Lib.hid (B2.out.trans (hb.mono B2.out.size))
      clear hb
      go_wp2_with fail
      refine (G.out _ B3.out).mono ?_
      rintro e w4 ⟨rfl, hb⟩
      have B4 := Lib.hid (B3.out.trans (hb.mono B3.out.size))
      clear hb
      go_wp2_with fail
      go_ret
      exact ⟨rfl, B4.out⟩
end Go.Proofs.YtakjgimnmobngaaDoor
