import Derived.Test.YtakjgimnmobngaaDoorPeA
namespace Go.Proofs.YtakjgimnmobngaaDoor
open Go.RowKit Mem Ci
set_option maxHeartbeats 2000000 in
theorem periodBetween_walk (t s : Int) (w : World) (hw : Lens w) (_ht : (Lit.int .i64 t).wf = true) (_hs : (Lit.int .i64 s).wf = true) :
    Calls Tryd.prog 5 #[.int .i64 t, .int .i64 s] w fun e w' => e = .returned (.bool true) ∧ Below w.heap.size w w' := by
  have hs := lens_size hw
  have HL := Lib.hid (fun W (h : Below w.heap.size w W) => hw.below h hs); clear hw
  have G := Lib.hid (fun W (hB : Below w.heap.size w W) => pgoes_any W (HL.out _ hB))
  clear hs _ht _hs
  by_cases ok : TimeOk t s
  · obtain ⟨q, hq⟩ := isM_has (dayN_in ok).1 (dayN_in ok).2
    have dn := dayN_bd ok.lo ok.hi ok.sh
    have D := Lib.hid (show dayN t s = (t + s) / 86400 from rfl)
    obtain ⟨s1, s2, _⟩ := sh_of ok.sh
    have t1 := ok.lo; have t2 := ok.hi
    have qn := hq.next dn.2
    have q0 := hq.lo
    have M1 := Lib.hid (fst_succ q0 (by omega))
    have M2 := hq.le; have M3 := hq.lt
    have fb := fst_bd q0 (by omega)
    have lb := lenM_bd q
    have C1 := Lib.hid (fun W => pday_yes W ok)
    have C2 := Lib.hid (fun W (hB : Below w.heap.size w W) => pmonth_yes W (HL.out _ hB) ok hq)
    obtain ⟨z, hz⟩ : ∃ z, dayN t s = z := ⟨_, rfl⟩
    rw [hz] at C1 dn D hq M2 M3
    have C3 := Lib.hid (fun W (hB : Below w.heap.size w W) => dawn_yes (z := z) W (HL.out _ hB) (by omega) (by omega) ok.sh)
    have C4 := Lib.hid (fun W (hB : Below w.heap.size w W) => dawn_yes (z := z + 1) W (HL.out _ hB) (by omega) (by omega) ok.sh)
    have C5 := Lib.hid (fun W (hB : Below w.heap.size w W) => start_yes (q := q) W (HL.out _ hB) (by omega) (by omega) ok.sh)
    have C6 := Lib.hid (fun W (hB : Below w.heap.size w W) => start_yes (q := q + 1) W (HL.out _ hB) (by omega) (by omega) ok.sh)
    rw [M1.out] at C6
    have C7 := Lib.hid (fun W (hB : Below w.heap.size w W) => of_in z W (HL.out _ hB) (by omega) (by omega))
    have x1 : 86400 * z - s ≤ t := by have := D.out; omega
    have x2 : t < 86400 * (z + 1) - s := by have := D.out; omega
    have x3 : 86400 * fst q - s ≤ 86400 * z - s := by omega
    have x4 : 86400 * (z + 1) - s ≤ 86400 * (fst q + lenM q) - s := by omega
    have x5 : IntKind.i64.wrap (86400 * (z + 1) - s - (86400 * z - s)) = 86400 := (IntWalk.i64_in _ (by omega)).trans (by omega)
    have x6 : IntKind.i64.wrap (z + 1) = z + 1 := IntWalk.i64_in _ (by omega)
    have x7 : IntKind.i64.wrap (q + 1) = q + 1 := IntWalk.i64_in _ (by omega)
    have HQ := Lib.hid hq
    clear ok hz hq M2 M3
    go_enter Tryd.func5, Tryd.ntmps5
    go_wp2_with fail
    refine (C1.out _).mono ?_
    rintro e w1 ⟨rfl, rfl⟩
    go_wp2_with fail
    refine (C2.out _ (Below.refl _ _)).mono ?_
    rintro e w2 ⟨rfl, hb⟩
    have B1 := Lib.hid hb
    clear hb
    go_wp2_with fail
    refine (C3.out _ B1.out).mono ?_
    rintro e w3 ⟨rfl, hb⟩
    have B2 := Lib.hid (B1.out.trans (hb.mono B1.out.size))
    clear hb
    go_wp2_with fail
    refine (C4.out _ B2.out).mono ?_
    rintro e w4 ⟨rfl, hb⟩
    have B3 := Lib.hid (B2.out.trans (hb.mono B2.out.size))
    clear hb
    go_wp2_with fail
    refine (C5.out _ B3.out).mono ?_
    rintro e w5 ⟨rfl, hb⟩
    have B4 := Lib.hid (B3.out.trans (hb.mono B3.out.size))
    clear hb
    go_wp2_with fail
    refine (C6.out _ B4.out).mono ?_
    rintro e w6 ⟨rfl, hb⟩
    have B5 := Lib.hid (B4.out.trans (hb.mono B4.out.size))
    clear hb
    go_wp2_with fail
    refine (C7.out _ B5.out).mono ?_
    rintro e w7 ⟨y, m, d, rfl, ⟨hv, hn⟩, hb⟩
    have B6 := Lib.hid (B5.out.trans (hb.mono B5.out.size))
    clear hb
    have E := Lib.hid (monB_of HQ.out hv hn); clear hv hn
    have B7 := Lib.hid (B6.out.alloc B6.out.size (.cells #[.int .i64 y, .int .i64 m, .int .i64 d] 30))
    go_wp2_with fail
    refine (month_any y m d _ (HL.out _ B7.out) (by simp)).mono ?_
    rintro e w8 ⟨rfl, hb⟩
    have B8 := Lib.hid (B7.out.trans (hb.mono B7.out.size))
    clear hb
    rw [E.out]
    go_wp2_with fail
    refine (G.out _ B8.out).mono ?_
    rintro e w9 ⟨rfl, hb⟩
    have B9 := Lib.hid (B8.out.trans (hb.mono B8.out.size))
    clear hb
    go_wp2_with fail
    go_ret
    exact ⟨rfl, B9.out⟩
  · have C1 := Lib.hid (fun W => pday_no W ok)
    have C2 := Lib.hid (fun W => pmonth_no W ok)
    have hn := time_no ok
    clear ok
    rcases hn with h | ⟨h1, h⟩ | ⟨h1, h2, h⟩
    · go_enter Tryd.func5, Tryd.ntmps5
      go_wp2_with fail
      refine (C1.out _).mono ?_
      rintro e w1 ⟨rfl, rfl⟩
      go_wp2_with fail
      refine (C2.out _).mono ?_
      rintro e w2 ⟨rfl, rfl⟩
      go_wp2_with fail
      refine (G.out _ (Below.refl _ _)).mono ?_
      rintro e w3 ⟨rfl, hb⟩
      have B1 := Lib.hid hb
      clear hb
      go_wp2_with fail
      go_ret
      exact ⟨rfl, B1.out⟩
    · go_enter Tryd.func5, Tryd.ntmps5
      go_wp2_with fail
      refine (C1.out _).mono ?_
      rintro e w1 ⟨rfl, rfl⟩
      go_wp2_with fail
      refine (C2.out _).mono ?_
      rintro e w2 ⟨rfl, rfl⟩
      go_wp2_with fail
      refine (G.out _ (Below.refl _ _)).mono ?_
      rintro e w3 ⟨rfl, hb⟩
      have B1 := Lib.hid hb
      clear hb
      go_wp2_with fail
      go_ret
      exact ⟨rfl, B1.out⟩
    · have K := Lib.hid (fun W => check_not W h); clear h
      go_enter Tryd.func5, Tryd.ntmps5
      go_wp2_with fail
      refine (C1.out _).mono ?_
      rintro e w1 ⟨rfl, rfl⟩
      go_wp2_with fail
      refine (C2.out _).mono ?_
      rintro e w2 ⟨rfl, rfl⟩
      go_wp2_with fail
      refine (K.out _).mono ?_
      rintro e w3 ⟨rfl, rfl⟩
      go_wp2_with fail
      refine (G.out _ (Below.refl _ _)).mono ?_
      rintro e w4 ⟨rfl, hb⟩
      have B1 := Lib.hid hb
      clear hb
      go_wp2_with fail
      go_ret
      exact ⟨rfl, B1.out⟩
end Go.Proofs.YtakjgimnmobngaaDoor
