import Derived.Test.YtakjgimnmobngaaDoorCi5
import Derived.Test.YtakjgimnmobngaaDoorSh
namespace Go.Proofs.YtakjgimnmobngaaDoor.Ci
open Go.RowKit Mem Go.Sort Go.Lib

theorem grow_below {B : Nat} {w : World} (q : Nat) (os : Array Obj) (hB : B ≤ w.heap.size) : Below B w (grow (w.drewN q) os) := below_grown_sl B w q os hB
theorem quiet_left {P : Program} {f : FuncId} {args : Array Value} {w : World} {n : Nat} {v : Value}
    (h : Calls P f args (w.drewN n) fun e w' => e = .returned v ∧ w.drewN n = w') : Calls P f args (w.drewN n) fun e w'' => e = .returned v ∧ ∃ m, w'' = w.drewN m :=
  h.mono fun _ _ ⟨he, hm⟩ => ⟨he, n, hm.symm⟩
/-- How many places below n are still false, where truth stays. -/
theorem count_at : ∀ (n : Nat) (p : Nat → Bool), (∀ a b, a ≤ b → b < n → p a = true → p b = true) →
    ∃ c, (List.range n).countP (fun i => !p i) = c ∧ c ≤ n ∧ (∀ i, i < c → p i = false) ∧ (∀ i, c ≤ i → i < n → p i = true)
  | 0, _, _ => ⟨0, rfl, Nat.le_refl _, fun _ h => absurd h (by omega), fun _ _ h => absurd h (by omega)⟩
  | n + 1, p, h => by
    obtain ⟨c, hc, hn, ha, hb⟩ := count_at n p (fun a b x y z => h a b x (by omega) z)
    rw [List.range_succ, List.countP_append, hc]
    cases hp : p n with
    | true =>
      refine ⟨c, by simp [hp], by omega, ha, fun i x y => ?_⟩
      rcases Nat.lt_or_eq_of_le (Nat.lt_succ_iff.1 y) with k | rfl
      · exact hb i x k
      · exact hp
    | false =>
      have : c = n := by
        rcases Nat.lt_or_eq_of_le hn with k | k
        · have := h c n (Nat.le_of_lt k) (by omega) (hb c (Nat.le_refl _) k); rw [hp] at this; cases this
        · exact k
      subst this
      refine ⟨c + 1, by simp [hp], by omega, fun i x => ?_, fun i x y => by omega⟩
      rcases Nat.lt_or_eq_of_le (Nat.lt_succ_iff.1 x) with k | rfl
      · exact ha i k
      · exact hp
set_option maxHeartbeats 1000000 in
theorem of1_any (b i : Nat) (z : Int) (w : World) (hi : i < 9998) (hc : w.cell? ⟨b, 0, none⟩ = some (.int .i64 z)) :
    Calls Tryd.prog 31 (#[.int .i64 i] ++ #[.pointer (some ⟨b, 0, none⟩)]) w fun e w' => e = .returned (.bool (decide (z < ny (i + 2)))) ∧ ∃ q, w' = w.drewN q := by
  have hn := newYear_any ((i : Int) + 2) 
  have h0 := Lib.hid (fun W => hn W (by omega) (by omega)); clear hn
  have e1 : IntKind.i64.wrap (1 + (i : Int)) = 1 + i := IntWalk.i64_in _ (by omega) 
  have e2 : IntKind.i64.wrap (1 + (i : Int) + 1) = i + 2 := (IntWalk.i64_in _ (by omega)).trans (by omega)
  show Calls Tryd.prog 31 #[.int .i64 i, .pointer (some ⟨b, 0, none⟩)] w _
  go_enter Tryd.func31, Tryd.ntmps31
  go_wp2_with fail
  go_quiet ((go_at_call 32; exact quiet_left (h0.out _)))
  go_wp2
  go_ret
  exact ⟨rfl, _, rfl⟩

theorem grow_nil (W : World) : grow W #[] = W := by cases W; simp [grow]
theorem search_any (b : Nat) (z : Int) (w : World) (hc : w.cell? ⟨b, 0, none⟩ = some (.int .i64 z)) (h1 : -719162 ≤ z) (h2 : z ≤ 2932896) :
    Calls Tryd.prog 30 #[.int .i64 9998, .func (.func 31) #[] #[.pointer (some ⟨b, 0, none⟩)]] w fun e w' => ∃ c : Nat, e = .returned (.int .i64 c) ∧ (c ≤ 9998 ∧ ny (c + 1) ≤ z ∧ z < ny (c + 2)) ∧ Below w.heap.size w w' := by
  have hm : ∀ a b : Nat, a ≤ b → b < 9998 → decide (z < ny (a + 2)) = true → decide (z < ny (b + 2)) = true := by
    intro a b x _ y
    have := ny_le (a := (a : Int) + 2) (b := (b : Int) + 2) (by omega)
    simp at y ⊢; omega
  have hcon := Any.sort_Search Tryd.search 31 #[.pointer (some ⟨b, 0, none⟩)] 9998 (fun i => decide (z < ny (i + 2))) w (fun args W => by go_simp) (by omega)
    (fun m os i hi => (of1_any b i z _ hi (by have hb := World.block_lt_of_cell? _ _ hc; exact (cell_grown hb hc m os))).mono fun e w' ⟨he, q, hq⟩ => ⟨he, q, #[], by rw [hq, grow_nil]⟩) hm
  change Calls Tryd.prog 30 _ _ _ at hcon
  refine hcon.mono fun e w' ⟨he, q, os, hw⟩ => ?_
  obtain ⟨c, e1, e2, e3, e4⟩ := count_at 9998 (fun i => decide (z < ny (i + 2))) hm
  rw [e1] at he
  refine ⟨c, he, ⟨e2, ?_, ?_⟩, hw ▸ grow_below q os (Nat.le_refl _)⟩
  · rcases Nat.eq_zero_or_pos c with rfl | hp
    · have := ny_1; simp only [Int.natCast_zero, Int.zero_add]; omega
    · have := e3 (c - 1) (by omega)
      simp only [decide_eq_false_iff_not] at this
      rw [show ((c - 1 : Nat) : Int) + 2 = c + 1 by omega] at this; omega
  · rcases Nat.lt_or_eq_of_le e2 with hp | rfl
    · have := e4 c (Nat.le_refl _) hp
      simpa using this
    · have := ny_10000; show z < ny 10000; omega

theorem clamp_at {Y l : Int} {k : Nat} (w : World) (hw : Lens w) (h1 : 1 ≤ Y) (h2 : Y ≤ 9999) (hk : k < 12) (l0 : 0 ≤ l) (l1 : l < long Y (k + 1)) :
    Calls Tryd.prog 34 #[.int .i64 (12 * Y + k), .int .i64 (l + 1)] w fun e w' => e = .returned (.tuple #[.agg #[.int .i64 Y, .int .i64 (k + 1), .int .i64 (l + 1)], .int .i64 0]) ∧ Below w.heap.size w w' := by
  have := lenM_ym (y := Y) (m := (k : Int) + 1) h1 h2 (by omega) (by omega)
  rw [show 12 * Y + ((k : Int) + 1) - 1 = 12 * Y + k by omega] at this
  refine (clamp_in (12 * Y + k) (l + 1) w hw (by omega) (by omega) (by omega)).mono fun e w' ⟨he, hb⟩ => ⟨?_, hb⟩
  rw [he, this, show (12 * Y + (k : Int)) / 12 = Y by omega, show (12 * Y + (k : Int)) % 12 + 1 = k + 1 by omega, show min (l + 1) (long Y (k + 1)) = l + 1 by omega]

set_option maxHeartbeats 2000000 in
theorem of_in (z : Int) (w : World) (hw : Lens w) (h1 : -719162 ≤ z) (h2 : z ≤ 2932896) :
    Calls Tryd.prog 19 #[.int .i64 z] w fun e w' => ∃ y m d : Int, e = .returned (.tuple #[.agg #[.int .i64 y, .int .i64 m, .int .i64 d], .int .i64 0]) ∧ (vldB y m d = true ∧ num y m d = z) ∧ Below w.heap.size w w' := by
  have hb0 := hw
  have HW := Lib.hid (fun W (h : Below (w.heap.size) w W) (hs : 0 < w.heap.size) => hw.below h hs); clear hw
  have hs : 0 < w.heap.size := by
    have := hb0 0 (by omega)
    exact World.block_lt_of_cell? w _ this
  clear hb0
  go_enter Tryd.func19, Tryd.ntmps19
  go_wp2_with fail
  refine (search_any w.heap.size z _ (by simp) h1 h2).mono ?_
  rintro e w1 ⟨c, rfl, ⟨c1, c2, c3⟩, hb⟩
  have hc := Lib.hid (bcell hb).1
  have hf := Lib.hid (bcell hb).2
  have hbw := Lib.hid ((((Below.refl _ _).alloc (Nat.le_refl _) _).alloc (by simp) _).trans (hb.mono (by simp; omega)) : Below w.heap.size w w1)
  have hz : w.heap.size + 1 < w1.heap.size := by have := hb.size; simp at this; omega
  have g0 : w1.cell? ⟨w.heap.size, 0, none⟩ = some (.int .i64 z) := by rw [hc.out _ _ (by simp; omega)]; simp
  have HL := Lib.hid (HW.out w1 hbw.out hs)
  obtain ⟨Y, hY⟩ : ∃ Y, 1 + (c : Int) = Y := ⟨_, rfl⟩
  rw [show (c : Int) + 1 = Y by omega] at c2
  rw [show (c : Int) + 2 = Y + 1 by omega] at c3
  have y1 : 1 ≤ Y := by omega
  have y2 : Y ≤ 9999 := by omega
  have hn := ny_bd (y := Y) (by omega) (by omega)
  have w1' : IntKind.i64.wrap (12 * Y) = 12 * Y := IntWalk.i64_in _ (by omega)
  have w2' : IntKind.i64.wrap (z - ny Y) = z - ny Y := IntWalk.i64_in _ (by omega)
  have hl := cum_12 Y
  rw [ny_succ] at c3
  have HC := Lib.hid hl; clear hl
  have h0 := Lib.hid (fun W => newYear_any Y W (by omega) (by omega))
  go_wp2_with fail
  have HY := Lib.hid hY; clear hY hb
  go_quiet ((go_at_call 32; exact quiet_left (h0.out _)))
  clear w1' w2'
  go_wp2_with fail
  have q0 : (w1.drewN nq).cell? ⟨w.heap.size + 1, 0, none⟩ = some (.int .i64 0) := by show w1.cell? _ = _; rw [hc.out _ _ (by simp)]; simp
  have q1 : (w1.drewN nq).cell? ⟨w.heap.size + 1, 1, none⟩ = some (.int .i64 0) := by show w1.cell? _ = _; rw [hc.out _ _ (by simp)]; simp
  have q2 : (w1.drewN nq).cell? ⟨w.heap.size + 1, 2, none⟩ = some (.int .i64 0) := by show w1.cell? _ = _; rw [hc.out _ _ (by simp)]; simp
  have f0 : ∀ o, (w1.drewN nq).frozen? ⟨w.heap.size + 1, o, none⟩ = false := fun o => by show w1.frozen? _ = _; rw [hf.out _ _ (by simp)]; simp
  have f1 := f0 0; have f2 := f0 1; have f3 := f0 2; clear f0
  have z2 : w.heap.size + 1 < (w1.drewN nq).heap.size := hz
  have HL2 : Hid (Lens (w1.drewN nq)) := HL
  have hbw2 := Lib.hid (below_drewN hbw.out nq)
  clear hc hf g0 hz hbw HL
  generalize w1.drewN nq = V at *
  go_loop [5, 6, 24] (fun q l c => ∃ k : Nat, k ≤ 11 ∧ c = .int .i64 k ∧ q = .int .i64 (12 * Y + k) ∧ l = .int .i64 (z - ny Y - cum Y k) ∧ 0 ≤ z - ny Y - cum Y k) (fun _ _ c => 12 - (intOf c).toNat)
  case atStart => exact ⟨0, by omega, rfl, by congr 1; simp, by congr 1; simp [cum], by simp [cum]; omega⟩
  case round =>
    obtain ⟨k, hk, rfl, rfl, rfl, hl0⟩ := hrel
    have bk := cum_bd Y (k := k) (by omega)
    have bl := long_bd Y ((k : Int) + 1)
    have HS := Lib.hid (cum_succ Y k)
    have HM := Lib.hid (show lenM (12 * Y + k) = long Y ((k : Int) + 1) by rw [← lenM_ym y1 y2 (by omega : (1 : Int) ≤ k + 1) (by omega)]; congr 1; omega)
    by_cases h11 : k < 11
    · by_cases hlt : z - ny Y - cum Y k < long Y ((k : Int) + 1)
      · go_wp2_with fail
        refine (length_any _ _ HL2.out).mono ?_
        rintro e w2 ⟨rfl, rfl⟩
        rw [HM.out]
        go_wp2_with fail
        have GT := hlt
        refine (clamp_at _ HL2.out y1 y2 (by omega) hl0 GT).mono ?_
        rintro e w3 ⟨rfl, hb3⟩
        have k0 := (bcell hb3).1 (w.heap.size + 1) 0 z2
        have k1 := (bcell hb3).1 (w.heap.size + 1) 1 z2
        have k2 := (bcell hb3).1 (w.heap.size + 1) 2 z2
        have k3 := (bcell hb3).2 (w.heap.size + 1) 0 z2
        have k4 := (bcell hb3).2 (w.heap.size + 1) 1 z2
        have k5 := (bcell hb3).2 (w.heap.size + 1) 2 z2
        rw [q0] at k0; rw [q1] at k1; rw [q2] at k2; rw [f1] at k3; rw [f2] at k4; rw [f3] at k5
        have z3 : w.heap.size + 1 < w3.heap.size := by have := hb3.size; omega
        have B3 := Lib.hid (hbw2.out.trans (hb3.mono (by omega)))
        clear q0 q1 q2 f1 f2 f3 hb3
        go_wp2_with fail
        have r := num_at y1 y2 (show k < 12 by omega) hl0 GT
        exact bodyPost_ret (v := .tuple #[.agg #[.int .i64 Y, .int .i64 (k + 1), .int .i64 (z - ny Y - cum Y k + 1)], .int .i64 0]) (by simp [results, Tryd.results19, go_sem, k0, k1, k2]) rfl ⟨Y, (k : Int) + 1, z - ny Y - cum Y k + 1, rfl, ⟨r.1, r.2⟩, (((B3.out.setCell (by simp) _).setCell (by simp) _).setCell (by simp) _)⟩
      · have hlt' : long Y ((k : Int) + 1) ≤ z - ny Y - cum Y k := by omega
        have NL := Lib.hid (show 0 ≤ z - ny Y - cum Y (k + 1) by have := HS.out; omega)
        clear hlt
        go_wp2_with fail
        refine (length_any _ _ HL2.out).mono ?_
        rintro e w2 ⟨rfl, rfl⟩
        rw [HM.out]
        go_wp2_with fail
        go_round
        case rel => exact ⟨k + 1, by omega, by go_num, by congr 1; omega, by rw [HS.out, ← Int.sub_sub], NL.out⟩
        case measure => simp [intOf]; omega
    · obtain rfl : k = 11 := by omega
      have GT : z - ny Y - cum Y 11 < long Y ((11 : Nat) + 1) := by have := HC.out; have : cum Y 12 = cum Y 11 + long Y ((11 : Nat) + 1) := rfl; omega
      go_wp2_with fail
      refine (clamp_at _ HL2.out y1 y2 (by omega) hl0 GT).mono ?_
      rintro e w3 ⟨rfl, hb3⟩
      have k0 := (bcell hb3).1 (w.heap.size + 1) 0 z2
      have k1 := (bcell hb3).1 (w.heap.size + 1) 1 z2
      have k2 := (bcell hb3).1 (w.heap.size + 1) 2 z2
      have k3 := (bcell hb3).2 (w.heap.size + 1) 0 z2
      have k4 := (bcell hb3).2 (w.heap.size + 1) 1 z2
      have k5 := (bcell hb3).2 (w.heap.size + 1) 2 z2
      rw [q0] at k0; rw [q1] at k1; rw [q2] at k2; rw [f1] at k3; rw [f2] at k4; rw [f3] at k5
      have z3 : w.heap.size + 1 < w3.heap.size := by have := hb3.size; omega
      have B3 := Lib.hid (hbw2.out.trans (hb3.mono (by omega)))
      clear q0 q1 q2 f1 f2 f3 hb3
      go_wp2_with fail
      have r := num_at y1 y2 (show 11 < 12 by omega) hl0 GT
      exact bodyPost_ret (v := .tuple #[.agg #[.int .i64 Y, .int .i64 ((11 : Nat) + 1), .int .i64 (z - ny Y - cum Y 11 + 1)], .int .i64 0]) (by simp [results, Tryd.results19, go_sem, k0, k1, k2]) rfl ⟨Y, ((11 : Nat) : Int) + 1, z - ny Y - cum Y 11 + 1, rfl, ⟨r.1, r.2⟩, (((B3.out.setCell (by simp) _).setCell (by simp) _).setCell (by simp) _)⟩
end Go.Proofs.YtakjgimnmobngaaDoor.Ci
