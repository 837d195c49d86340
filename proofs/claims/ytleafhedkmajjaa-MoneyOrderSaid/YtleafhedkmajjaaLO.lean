import Derived.Test.YtleafhedkmajjaaLS
import Derived.Deep.RegionWith
import Derived.Deep.RegionHeld3
import Derived.Deep.RegionLawGrows
import Derived.Deep.DeepFit
import Derived.Deep.CutRange
namespace Go.Proofs.Ytleafhedkmajjaa
set_option linter.unusedVariables false
set_option linter.unusedSimpArgs false
set_option maxRecDepth 8000
open Go.RowKit Mem Mo
theorem ity : IntTy Try.prog 22 2 := ⟨Try.underlying22, Try.underlying2, by
  have h : (Try.prog.info? 2).map (fun i => (i.zero, i.size, i.bytes)) = some (some (.int .i64 0), 1, 8) := by kernel_rfl
  exact info_parts h⟩
set_option maxHeartbeats 2000000 in
theorem moneyOrder_walk (A : Option Addr) (len c : Nat) (l : List Int) (hl : l.length = len) (y : Int) (w : World) (hr : RdI w w.heap.size A c l ∧ Nums l) (hy : (Lit.int .u8 y).wf = true) :
    Calls Try.prog 6 #[.slice A len c, .int .u8 y] w fun e w' => e = .returned (.bool true) ∧ Below w.heap.size w w' := by
  have hy1 : 0 ≤ y ∧ y ≤ 255 := by simpa [Lit.wf, IntKind.min, IntKind.max, IntKind.bits, IntKind.signed] using hy
  clear hy
  have G := Lib.hid (fun W => goes_any W)
  have B0 := Lib.hid (Below.refl w.heap.size w)
  by_cases h1 : 100 < len
  · clear hr hl hy1
    go_enter Try.func6, Try.ntmps6
    go_wp2_with fail
    go_ret
    exact ⟨rfl, B0.out⟩
  rcases Nat.eq_zero_or_pos len with h0 | h0
  · subst h0
    clear hr hl hy1 h1
    go_enter Try.func6, Try.ntmps6
    go_wp2_with fail
    refine (G.out _).mono ?_
    rintro e w1 ⟨rfl, hb⟩
    have B1 := Lib.hid (B0.out.trans (hb.mono B0.out.size)); clear hb
    go_wp2_with fail
    go_ret
    exact ⟨rfl, B1.out⟩
  have HR := Lib.hid hr
  have HL := Lib.hid hl
  obtain ⟨b, o, rfl, hb, hc⟩ := hr.1.2.2.2 (by omega)
  have hcc : len ≤ c ∧ c ≤ maxLen := ⟨by have := hr.1.1; omega, hr.1.2.1⟩
  have Hb := Lib.hid hb
  have HC := Lib.hid hcc
  have hc2 : len ≤ c := hcc.1
  obtain ⟨k, hk⟩ : ∃ k : Nat, y.tmod (len : Int) = k := ⟨(y.tmod len).toNat, by have := Int.tmod_nonneg (len : Int) hy1.1; omega⟩
  have hkl : k < len := by have := Int.tmod_lt_of_pos y (show (0 : Int) < len by omega); omega
  have k1 : IntKind.i64.wrap y = y := by rw [IntKind.wrap_i64]; omega
  have HK := Lib.hid hkl
  have n0 : ¬ (len : Int) = 0 := by omega
  have z1 : ((len : Int) == 0) = false := by simp; omega
  have z2 : ((100 : Int) < (len : Int)) = False := by simp; omega
  have z3 : (len : Int) ≠ 0 := n0
  clear hr hl hb hc hcc h0 hy1
  go_enter Try.func6, Try.ntmps6
  go_upto_region 4 with fail
  go_cut [6] from 7 (fun v wz => ∃ (Am : Option Addr) (cm : Nat), v = .slice Am len cm ∧ Hid (RdI wz wz.heap.size Am cm (l.drop k ++ l.take k)) ∧ Hid (Below w.heap.size w wz))
  case first =>
    clear hk k1 n0 z1 z2 z3
    have i1 : (0 : Int) ≤ (k : Int) := by omega
    have i2 : (k : Int) ≤ (len : Int) := by omega
    have i3 : (k : Int) ≤ (c : Int) := by omega
    have i4 : IntKind.i64.wrap (k : Int) = k := by have := HK.out; have := HC.out; unfold maxLen at this; rw [IntKind.wrap_i64]; omega
    have i5 : (len : Int) ≤ (c : Int) := by omega
    have i6 : (c = k) = False := by simp; omega
    have hR1 := HR.out.1.drop Hb.out k (by rw [HL.out]; omega)
    have hR2 := HR.out.1.take k (by rw [HL.out]; omega)
    have hl1 : (l.drop k).length = len - k := by rw [List.length_drop, HL.out]
    have hl2 : (l.take k).length = k := by rw [List.length_take, HL.out]; omega
    have R1 := Lib.hid hR1
    have R2 := Lib.hid hR2
    have L1 := Lib.hid hl1
    have L2 := Lib.hid hl2
    have N1 := Lib.hid (show ([] : List Int).length + (l.drop k).length ≤ 17592186044416 by rw [hl1]; simp only [List.length_nil]; omega)
    have N2 := Lib.hid (show ([] ++ l.drop k : List Int).length + (l.take k).length ≤ 17592186044416 by rw [List.nil_append, hl1, hl2]; omega)
    clear hkl hc2 hR1 hR2 hl1 hl2 h1
    go_region_law (first
      | (refine step_append_j ity rfl (.tmp 40) (.tmp 43) rfl w.heap.size v1 ([] ++ l.drop k) (by simp [Act.eval, Act.put]) O1.out w.heap.size (some ⟨b, o, none⟩) k c (l.take k) (by simp [Act.eval, Act.put]) L2.out.symm (R2.out.below b1.out) N2.out b1.out.size ?_
         intro v2 w2 ho2 hg2 hr2
         have O2 := Lib.hid ho2
         have b2 := Lib.hid (b1.out.grown hg2 b1.out.size (fun k hk => (World.ownsRow.lt O1.out k hk).1))
         clear ho2 hg2 hr2)
      | (refine step_append_j ity rfl (.tmp 36) (.tmp 39) rfl w.heap.size (.slice (some ⟨w.heap.size, 0, none⟩) 0 0) [] (by simp [Act.eval, Act.put]) (OwnJ.lit 2 w [] w.heap.size (Nat.le_refl _) (by simp)) w.heap.size (some ⟨b, o + k, none⟩) (len - k) (c - k) (l.drop k) (by simp [Act.eval, Act.put]) L1.out.symm (R1.out.alloc (Nat.le_refl _) _) N1.out (by simp) ?_
         intro v1 w1 ho1 hg1 hr1
         have O1 := Lib.hid ho1
         have b1 := Lib.hid (((Below.refl _ _).alloc (Nat.le_refl _) _).drew.grown hg1 (by simp) (fun k hk => by simp [Value.ownBlock] at hk; omega))
         clear ho1 hg1 hr1))
    all_goals
      obtain ⟨Am, cm, rfl, hr2, _, _⟩ := O2.out.form
      have hlen : ([] ++ l.drop k ++ l.take k : List Int).length = len := by rw [List.nil_append, List.length_append, L1.out, L2.out]; have := HK.out; omega
      rw [hlen]
      have R3 := Lib.hid hr2
      clear hr2 hlen i1 i2 i3 i4 i5 i6
      go_wp2_with fail
      go_meet
      case rel => exact ⟨Am, cm, rfl, by have := R3.out; rwa [List.nil_append] at this, b2⟩
  case rest =>
    obtain ⟨Am, cm, rfl, R3, B1⟩ := hcut
    have S1 := Lib.hid (fun W (hB : Below w.heap.size w W) => Sum_any (some ⟨b, o, none⟩) c l W w.heap.size (HR.out.1.below hB) hB.size HR.out.2 (by rw [HL.out]; omega))
    have hlen : (l.drop k ++ l.take k).length = len := by rw [List.length_append, List.length_drop, List.length_take, HL.out]; omega
    have hn2 : Nums (l.drop k ++ l.take k) := fun x hx => by rcases List.mem_append.1 hx with h | h; exact HR.out.2 x (List.mem_of_mem_drop h); exact HR.out.2 x (List.mem_of_mem_take h)
    have S2 := Lib.hid (fun W (hB : Below wc.heap.size wc W) => Sum_any Am cm (l.drop k ++ l.take k) W wc.heap.size (R3.out.below hB) hB.size hn2 (by rw [hlen]; omega))
    have hl2 : (l.take k).length = k := by rw [List.length_take, HL.out]; omega
    have hl3 : (l.drop k).length = len - k := by rw [List.length_drop, HL.out]
    have S3 := Lib.hid (fun W (hB : Below w.heap.size w W) => Sum_any (some ⟨b, o, none⟩) c (l.take k) W w.heap.size ((HR.out.1.take k (by rw [HL.out]; omega)).below hB) hB.size (fun x hx => HR.out.2 x (List.mem_of_mem_take hx)) (by rw [hl2]; omega))
    have S4 := Lib.hid (fun W (hB : Below w.heap.size w W) => Sum_any (some ⟨b, o + k, none⟩) (c - k) (l.drop k) W w.heap.size ((HR.out.1.drop Hb.out k (by rw [HL.out]; omega)).below hB) hB.size (fun x hx => HR.out.2 x (List.mem_of_mem_drop hx)) (by rw [hl3]; omega))
    have hsum : (l.drop k ++ l.take k).sum = l.sum := by
      rw [List.sum_append, Int.add_comm, ← List.sum_append, List.take_append_drop]
    have hsum2 : l.sum = (l.take k).sum + (l.drop k).sum := by rw [← List.sum_append, List.take_append_drop]
    rw [hsum, hlen] at S2
    rw [hl2] at S3
    rw [hl3] at S4
    rw [HL.out] at S1
    obtain ⟨X, hX⟩ := named (l.take k).sum
    obtain ⟨Y, hY⟩ := named (l.drop k).sum
    obtain ⟨V, hV⟩ := named l.sum
    rw [hX] at S3 hsum2
    rw [hY] at S4 hsum2
    rw [hV] at S1 S2 hsum2
    have i4 : IntKind.i64.wrap (k : Int) = k := by have := HC.out; unfold maxLen at this; rw [IntKind.wrap_i64]; omega
    have i1 : (0 : Int) ≤ (k : Int) := by omega
    have i2 : (k : Int) ≤ (c : Int) := by omega
    have i3 : (k : Int) ≤ (len : Int) := by omega
    have i6 : (c = k) = False := by simp; omega
    have BB := Lib.hid (Below.refl wc.heap.size wc)
    clear hX hY hV hsum hlen hn2 hl2 hl3 hk k1 hkl
    cases hx : isn X with
    | false =>
      rw [na_f hx, ne_f hx] at S3
      generalize na Y = yv at *
      generalize ne Y = ye at *
      generalize na V = vv at *
      generalize ne V = ve at *
      clear hsum2 hx
      have D1 := BB
      go_wp2_with fail
      go_wp2_with fail
      refine (S1.out _ B1.out).mono ?_
      rintro e w2 ⟨rfl, hb⟩
      have B2 := Lib.hid (B1.out.trans (hb.mono B1.out.size))
      have D2 := Lib.hid ((D1.out).trans (hb.mono D1.out.size)); clear hb
      go_wp2_with fail
      refine (S2.out _ D2.out).mono ?_
      rintro e w3 ⟨rfl, hb⟩
      have B3 := Lib.hid (B2.out.trans (hb.mono B2.out.size))
      have D3 := Lib.hid ((D2.out).trans (hb.mono D2.out.size)); clear hb
      go_wp2_with fail
      refine (S3.out _ B3.out).mono ?_
      rintro e w4 ⟨rfl, hb⟩
      have B4 := Lib.hid (B3.out.trans (hb.mono B3.out.size))
      have D4 := Lib.hid ((D3.out).trans (hb.mono D3.out.size)); clear hb
      go_wp2_with fail
      refine (S4.out _ B4.out).mono ?_
      rintro e w5 ⟨rfl, hb⟩
      have B5 := Lib.hid (B4.out.trans (hb.mono B4.out.size))
      have D5 := Lib.hid ((D4.out).trans (hb.mono D4.out.size)); clear hb
      go_wp2_with fail
      refine (G.out _).mono ?_
      rintro e w6 ⟨rfl, hb⟩
      have B6 := Lib.hid (B5.out.trans (hb.mono B5.out.size))
      have D6 := Lib.hid ((D5.out).trans (hb.mono D5.out.size)); clear hb
      go_wp2_with fail
      go_ret
      exact ⟨rfl, B6.out⟩
    | true =>
      rw [na_t hx, ne_t hx] at S3
      cases hy2 : isn Y with
      | false =>
        rw [na_f hy2, ne_f hy2] at S4
        generalize na V = vv at *
        generalize ne V = ve at *
        clear hsum2 hx hy2
        have D1 := BB
        go_wp2_with fail
        go_wp2_with fail
        refine (S1.out _ B1.out).mono ?_
        rintro e w2 ⟨rfl, hb⟩
        have B2 := Lib.hid (B1.out.trans (hb.mono B1.out.size))
        have D2 := Lib.hid ((D1.out).trans (hb.mono D1.out.size)); clear hb
        go_wp2_with fail
        refine (S2.out _ D2.out).mono ?_
        rintro e w3 ⟨rfl, hb⟩
        have B3 := Lib.hid (B2.out.trans (hb.mono B2.out.size))
        have D3 := Lib.hid ((D2.out).trans (hb.mono D2.out.size)); clear hb
        go_wp2_with fail
        refine (S3.out _ B3.out).mono ?_
        rintro e w4 ⟨rfl, hb⟩
        have B4 := Lib.hid (B3.out.trans (hb.mono B3.out.size))
        have D4 := Lib.hid ((D3.out).trans (hb.mono D3.out.size)); clear hb
        go_wp2_with fail
        refine (S4.out _ B4.out).mono ?_
        rintro e w5 ⟨rfl, hb⟩
        have B5 := Lib.hid (B4.out.trans (hb.mono B4.out.size))
        have D5 := Lib.hid ((D4.out).trans (hb.mono D4.out.size)); clear hb
        go_wp2_with fail
        refine (G.out _).mono ?_
        rintro e w6 ⟨rfl, hb⟩
        have B6 := Lib.hid (B5.out.trans (hb.mono B5.out.size))
        have D6 := Lib.hid ((D5.out).trans (hb.mono D5.out.size)); clear hb
        go_wp2_with fail
        go_ret
        exact ⟨rfl, B6.out⟩
      | true =>
        rw [na_t hy2, ne_t hy2] at S4
        have hxb := (isn_iff X).1 hx
        have hyb := (isn_iff Y).1 hy2
        have S5 := Lib.hid (fun W => Add_any X Y W (by omega) (by omega) (by omega) (by omega))
        rw [← hsum2] at S5
        generalize na V = vv at *
        generalize ne V = ve at *
        clear hsum2 hx hy2 hxb hyb
        have D1 := BB
        go_wp2_with fail
        go_wp2_with fail
        refine (S1.out _ B1.out).mono ?_
        rintro e w2 ⟨rfl, hb⟩
        have B2 := Lib.hid (B1.out.trans (hb.mono B1.out.size))
        have D2 := Lib.hid ((D1.out).trans (hb.mono D1.out.size)); clear hb
        go_wp2_with fail
        refine (S2.out _ D2.out).mono ?_
        rintro e w3 ⟨rfl, hb⟩
        have B3 := Lib.hid (B2.out.trans (hb.mono B2.out.size))
        have D3 := Lib.hid ((D2.out).trans (hb.mono D2.out.size)); clear hb
        go_wp2_with fail
        refine (S3.out _ B3.out).mono ?_
        rintro e w4 ⟨rfl, hb⟩
        have B4 := Lib.hid (B3.out.trans (hb.mono B3.out.size))
        have D4 := Lib.hid ((D3.out).trans (hb.mono D3.out.size)); clear hb
        go_wp2_with fail
        refine (S4.out _ B4.out).mono ?_
        rintro e w5 ⟨rfl, hb⟩
        have B5 := Lib.hid (B4.out.trans (hb.mono B4.out.size))
        have D5 := Lib.hid ((D4.out).trans (hb.mono D4.out.size)); clear hb
        go_wp2_with fail
        refine (S5.out _).mono ?_
        rintro e w6 ⟨rfl, hb⟩
        have B6 := Lib.hid (B5.out.trans (hb.mono B5.out.size))
        have D6 := Lib.hid ((D5.out).trans (hb.mono D5.out.size)); clear hb
        go_wp2_with fail
        refine (G.out _).mono ?_
        rintro e w7 ⟨rfl, hb⟩
        have B7 := Lib.hid (B6.out.trans (hb.mono B6.out.size))
        have D7 := Lib.hid ((D6.out).trans (hb.mono D6.out.size)); clear hb
        go_wp2_with fail
        go_ret
        exact ⟨rfl, B7.out⟩
end Go.Proofs.Ytleafhedkmajjaa
