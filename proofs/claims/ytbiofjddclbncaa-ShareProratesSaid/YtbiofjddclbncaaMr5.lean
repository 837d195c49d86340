import Derived.Test.YtbiofjddclbncaaMr4
namespace Go.Proofs.Ytbiofjddclbncaa.Mo
set_option linter.unusedVariables false
set_option linter.unusedSimpArgs false
open Go.RowKit Mem
set_option maxRecDepth 8000

theorem _root_.Go.Proofs.Ytbiofjddclbncaa.Mem.VN.over {w V w' : World} {b : Nat} {xs : List Value} (h : VN w b xs) (hb : Below V.heap.size V w') (e : V.heap = w.heap) : VN w' b xs := by
  have hV : VN V b xs := by
    have hl := h.lt
    refine ⟨by rw [e]; exact hl, fun j v hv => (World.cell?_of_block (w := w) (by rw [e])).trans (h.c j v hv), fun i => (World.frozen?_of_block (w := w) (by rw [e])).trans (h.z i), fun i hi => (World.cell?_of_block (w := w) (by rw [e])).trans (h.top i hi)⟩
  exact hV.bel hb
theorem bel_over {w0 w V w' : World} (h : Below w0.heap.size w0 w) (hb : Below V.heap.size V w') (e : V.heap = w.heap) (e1 : V.os = w.os) (e2 : V.tape = w.tape) (e3 : V.output = w.output) : Below w0.heap.size w0 w' :=
  (show Below w0.heap.size w0 V from ⟨e1.trans h.os, e2.trans h.tape, e3.trans h.output, by rw [e]; exact h.size, fun k hk => by rw [e]; exact h.block k hk⟩).trans (hb.mono (by rw [e]; exact h.size))
set_option maxHeartbeats 4000000 in
theorem RSum_any (A : Option Addr) (c : Nat) (l : List Int) (w : World) (B : Nat) (hr : RdI w B A c l) (hB : B ≤ w.heap.size) (hl : Nums l) (hn : l.length ≤ 4611686018427387904) :
    Calls Try.prog 21 #[.slice A l.length c] w fun e w' => e = .returned (.tuple #[.int .i64 (na l.sum), .int .i64 (ne l.sum)]) ∧ Below w.heap.size w w' := by
  have hS := hl.sum
  have C2 := Lib.hid (fun W => Small_any l.sum W (by omega) (by omega))
  have C1 := Lib.hid (fun V x W => RAdd_any V x W)
  have C0 := Lib.hid (fun k (hk : k < l.length) W => Of_any l[k] W (hl.at hk).1 (hl.at hk).2)
  have HR := Lib.hid hr
  have HB := Lib.hid hB
  obtain ⟨n, hnl⟩ := named l.length
  have HN := Lib.hid hnl
  rw [hnl] at hn ⊢
  clear hS hl hr hB hnl
  have HV := Lib.hid (VN.new w #[.int .u64 0, .int .u64 0, .int .u64 0, .int .u64 0] 46)
  have i5 : (n : Int) ≤ 4611686018427387904 := by omega
  clear hn
  go_enter Try.func21, Try.ntmps21
  go_wp2_with fail
  go_loopw [5] (fun v wr => ∃ k : Nat, k ≤ n ∧ v = .int .i64 k ∧ Hid (VN wr w.heap.size (bl (l.take k).sum) ∧ Below w.heap.size w wr)) (fun v _ => n - (intOf v).toNat)
  · exact ⟨0, by omega, rfl, Lib.hid ⟨HV.out, (Below.refl _ _).alloc (Nat.le_refl _) _⟩⟩
  · obtain ⟨k, hk, rfl, hX⟩ := hrel
    by_cases hkn : k < n
    · obtain ⟨b, o, rfl, hb, hc⟩ := HR.out.2.2.2 (by have := HN.out; omega)
      obtain ⟨V, hV⟩ := named (l.take k).sum
      have hkl : k < l.length := by rw [HN.out]; exact hkn
      obtain ⟨x, hx⟩ := named l[k]
      have hX1 := hX.out.1
      have hX2 := Lib.hid hX.out.2
      rw [hV] at hX1
      have HX := Lib.hid hX1
      have e1 : wr.cell? ⟨b, o + k, none⟩ = some (.int .i64 x) := by rw [← hx, ← hc k hkl]; exact hX2.out.cell (p := ⟨b, o + k, none⟩) (by have := HB.out; show b < _; omega)
      have c0 := C0.out k hkl
      have c1 := C1.out V x
      have hS1 := sum_next l hkl
      rw [hx] at c0 hS1
      rw [hV] at hS1
      have HS1 := Lib.hid hS1
      unfold bg at c0 c1
      obtain ⟨u, hu⟩ := named (bl (V + x))
      have hu2 : ∃ u0 u1 u2 u3 : Int, dg0 (V + x) = u0 ∧ dg1 (V + x) = u1 ∧ dg2 (V + x) = u2 ∧ dg3 (V + x) = u3 := ⟨_, _, _, _, rfl, rfl, rfl, rfl⟩
      obtain ⟨u0, u1, u2, u3, hu0, hu1, hu2, hu3⟩ := hu2
      have hbl : bl (V + x) = [.int .u64 u0, .int .u64 u1, .int .u64 u2, .int .u64 u3] := by unfold bl; rw [hu0, hu1, hu2, hu3]
      have HBL := Lib.hid hbl
      rw [hu0, hu1, hu2, hu3] at c1
      have hbv : bl V = [.int .u64 (dg0 V), .int .u64 (dg1 V), .int .u64 (dg2 V), .int .u64 (dg3 V)] := rfl
      rw [hbv] at hX1
      clear hu hbl hu0 hu1 hu2 hu3 hV hx hS1 hc hb hX hbv C0 C1 HX
      generalize dg0 V = v0 at *
      generalize dg1 V = v1 at *
      generalize dg2 V = v2 at *
      generalize dg3 V = v3 at *
      generalize dg0 x = x0 at *
      generalize dg1 x = x1 at *
      generalize dg2 x = x2 at *
      generalize dg3 x = x3 at *
      have HX := Lib.hid hX1
      have D0 := Lib.hid c0
      have D1 := Lib.hid c1
      have E1 := Lib.hid e1
      clear c0 c1 hX1 e1
      have j1 : IntKind.i64.wrap (k : Int) = k := by rw [IntKind.wrap_i64]; omega
      have c0 := HX.out.c 0 _ rfl
      have c1 := HX.out.c 1 _ rfl
      have c2 := HX.out.c 2 _ rfl
      have c3 := HX.out.c 3 _ rfl
      have e1 := E1.out
      go_wp2_with fail
      go_region_with (first
        | (go_at_call 23
           with_reducible refine (D1.out _).mono ?_
           rintro e w3 ⟨rfl, hb3⟩
           have HY := Lib.hid (HX2b.out.over hb3 rfl)
           have BY := Lib.hid (bel_over BX2.out hb3 rfl rfl rfl rfl)
           have y0 := HY.out.c 0 _ rfl
           have y1 := HY.out.c 1 _ rfl
           have y2 := HY.out.c 2 _ rfl
           have y3 := HY.out.c 3 _ rfl
           have z0 := HY.out.z 0
           have z1 := HY.out.z 1
           have z2 := HY.out.z 2
           have z3 := HY.out.z 3
           clear hb3)
        | (go_at_call 25
           with_reducible refine (D0.out _).mono ?_
           rintro e w2 ⟨rfl, hb2⟩
           have HX2b := Lib.hid (HX.out.over hb2 rfl)
           have BX2 := Lib.hid (bel_over hX2.out hb2 rfl rfl rfl rfl)
           have x0 := HX2b.out.c 0 _ rfl
           have x1 := HX2b.out.c 1 _ rfl
           have x2 := HX2b.out.c 2 _ rfl
           have x3 := HX2b.out.c 3 _ rfl
           clear hb2))
      all_goals
        have HZ := Lib.hid ((((HY.out.set 0 (by simp) (.int .u64 u0)).set 1 (by simp) (.int .u64 u1)).set 2 (by simp) (.int .u64 u2)).set 3 (by simp) (.int .u64 u3))
        have BZ := Lib.hid (bel_set (i := 3) (bel_set (i := 2) (bel_set (i := 1) (bel_set (i := 0) BY.out (Nat.le_refl _) (.int .u64 u0)) (Nat.le_refl _) (.int .u64 u1)) (Nat.le_refl _) (.int .u64 u2)) (Nat.le_refl _) (.int .u64 u3))
        clear y0 y1 y2 y3 z0 z1 z2 z3
        go_wp2_with fail
        go_roundw
        case rel => exact ⟨k + 1, by omega, by go_num, Lib.hid ⟨by rw [HS1.out, HBL.out]; exact HZ.out, BZ.out⟩⟩
        case measure => simp [intOf]; omega
    · obtain rfl : k = n := by omega
      have hX1 := hX.out.1
      rw [← HN.out, List.take_length] at hX1
      have C := C2.out
      unfold bg at C
      unfold bl at hX1
      obtain ⟨S, hS⟩ := named l.sum
      have hSS := hS
      rw [hS] at hX1 C
      generalize dg0 S = v0 at *
      generalize dg1 S = v1 at *
      generalize dg2 S = v2 at *
      generalize dg3 S = v3 at *
      have HC := Lib.hid C
      have HX2 := Lib.hid hX.out.2
      have HX := Lib.hid hX1
      have c0 := HX.out.c 0 _ rfl
      have c1 := HX.out.c 1 _ rfl
      have c2 := HX.out.c 2 _ rfl
      have c3 := HX.out.c 3 _ rfl
      have HSS := Lib.hid hSS
      cases hi : isn S with
      | true =>
        rw [hi] at HC
        have HI := Lib.hid hi
        clear hX hX1 hkn C hS hSS C0 C1 C2 hi
        go_wp2_with fail
        refine (HC.out wr).mono ?_
        rintro e w1 ⟨rfl, hb⟩
        have HB1 := Lib.hid (HX2.out.trans (hb.mono HX2.out.size))
        clear hb
        go_wp2_with fail
        go_ret2
        exact ⟨by rw [HSS.out, ne_t HI.out]; rfl, HB1.out⟩
      | false =>
        rw [hi] at HC
        have HI := Lib.hid hi
        clear hX hX1 hkn C hS hSS C0 C1 C2 hi
        go_wp2_with fail
        refine (HC.out wr).mono ?_
        rintro e w1 ⟨rfl, hb⟩
        have HB1 := Lib.hid (HX2.out.trans (hb.mono HX2.out.size))
        clear hb
        go_wp2_with fail
        go_ret2
        exact ⟨by rw [HSS.out, ne_f HI.out, na_f HI.out]; rfl, HB1.out⟩
end Go.Proofs.Ytbiofjddclbncaa.Mo
