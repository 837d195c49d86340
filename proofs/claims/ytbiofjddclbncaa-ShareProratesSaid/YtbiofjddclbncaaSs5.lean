import Derived.Test.YtbiofjddclbncaaSs4
import Derived.Test.YtbiofjddclbncaaMr6
namespace Go.Proofs.Ytbiofjddclbncaa.Sr
set_option linter.unusedVariables false
set_option linter.unusedSimpArgs false
open Go.RowKit Mem Mo
/-- Two rows of one's own that lie apart. -/
def Apa (v1 v2 : Value) : Prop := v1.ownBlock = none ∨ v2.ownBlock = none ∨ v1.ownBlock ≠ v2.ownBlock
theorem Apa.symm {v1 v2 : Value} (h : Apa v1 v2) : Apa v2 v1 := by unfold Apa at *; rcases h with h | h | h; exact .inr (.inl h); exact .inl h; exact .inr (.inr fun e => h e.symm)
theorem own2_step {W W' : World} {e : TypeId} {base : Nat} {v1 v1' v2 : Value} {l2 : List Int} (h2 : OwnJ e W base v2 l2) (hg : W.grownBy W' v1.ownBlock) (hat : v1'.ownBlock = v1.ownBlock ∨ v1'.ownBlock = some W.heap.size) (hD : Apa v1 v2) : OwnJ e W' base v2 l2 ∧ Apa v1' v2 := by
  constructor
  · refine World.ownsRow.kept h2 hg ?_
    unfold Apa at hD
    rcases hD with h | h | h
    · rcases hv : v2.ownBlock with _ | j
      · exact .inl rfl
      · exact .inr (by rw [h]; simp)
    · exact .inl h
    · exact .inr fun c => h c.symm
  · rcases hat with h | h
    · unfold Apa at *; rw [h]; exact hD
    · rcases hv : v2.ownBlock with _ | j
      · exact .inr (.inl hv)
      · have := (World.ownsRow.lt h2 j hv).2
        exact .inr (.inr (by rw [h, hv]; simp; omega))
theorem tl_succ (k : Nat) (f : Nat → Int) : tl (k + 1) f = tl k f ++ [f k] := by simp [tl, List.range_succ]
theorem ownJ_row {e : TypeId} {W : World} {base : Nat} {v : Value} {n : Nat} {f : Nat → Int} (h : OwnJ e W base v (tl n f)) (hn : 1 ≤ n) : ∃ g c, v = .slice (some ⟨g, 0, none⟩) n c ∧ (base ≤ g ∧ n ≤ c ∧ c ≤ maxLen) ∧ RowZ W g n f := by
  have hlt := World.ownsRow.lt h
  have hcells := fun g hg => World.ownsRow.cells (g := g) h hg
  rcases h.2 with ⟨rfl, h0⟩ | ⟨g, cap, cur, rfl, hb, hh, hnc, hcm, _, _⟩
  · rw [tl_len] at h0; omega
  · rw [tl_len] at hnc ⊢
    refine ⟨g, cap, rfl, ⟨hb, hnc, hcm⟩, (hlt g rfl).2, fun k hk => ?_, fun i => frozen_of_row _ _ _ _ _ hh⟩
    have := hcells g rfl k (Value.int .i64 (f k)) (by simp [tl, hk])
    rw [show (⟨g, 0, none⟩ : Addr).add k = ⟨g, 0 + k, none⟩ by unfold Addr.add; split <;> simp_all, Nat.zero_add] at this
    exact this
/-- The rests, where those that have had their unit are struck out. -/
def rst (r : Nat → Int) (n t x : Nat) : Int := if had r n t x then -1 else r x
theorem rst_next {r : Nat → Int} {n t : Nat} (ht : t < n) (x : Nat) : (if x = nxt r n t then -1 else rst r n t x) = rst r n (t + 1) x := by
  unfold rst
  have := had_succ (r := r) ht x
  by_cases e : x = nxt r n t
  · rw [if_pos e, if_pos (this.2 (.inr e))]
  · rw [if_neg e]
    by_cases h : had r n t x
    · rw [if_pos h, if_pos (this.2 (.inl h))]
    · rw [if_neg h, if_neg (fun c => (this.1 c).elim h e)]

set_option maxRecDepth 8000 in
set_option maxHeartbeats 1000000 in
theorem RSplit_arg (T : Int) (A : Option Addr) (c : Nat) (l : List Int) (w : World) (h : T < 0 ∨ (0 ≤ T ∧ 100 < l.length)) (hT : T ≤ 9223372036854775807) :
    Calls Try.prog 9 #[.int .i64 T, .slice A l.length c] w (SpPost T l w) := by
  have HP := Lib.hid (show spE T l = 1 ∧ shl T l = [] from spE_a (by
    rcases h with h | h
    · exact .inr (.inl (wnB_f (k := 0) (by simp) (.inl (by simpa using h))))
    · exact .inl h.2))
  obtain ⟨n, hn⟩ := named l.length
  rw [hn] at h ⊢
  clear hn hT
  rcases h with h | ⟨h, h2⟩
  · have z1 : (T < 0) = True := eq_true h
    clear h
    go_enter Try.func9, Try.ntmps9
    go_wp2_with fail
    go_ret2
    exact SpPost.no HP.out (Below.refl _ _)
  · have z1 : (T < 0) = False := eq_false (by omega)
    have z2 : (100 < (n : Int)) = True := eq_true (by omega)
    clear h h2
    go_enter Try.func9, Try.ntmps9
    go_wp2_with fail
    go_ret2
    exact SpPost.no HP.out (Below.refl _ _)

theorem dec_sum {f : Nat → Int} {k : Nat} (h : ∀ j, j < k + 1 → 0 ≤ f j) : (0 < sm f (k + 1)) ↔ (0 < sm f k ∨ 0 < f k) := by
  have := sm_nonneg (f := f) (n := k) fun j hj => h j (by omega)
  have := h k (by omega)
  show 0 < sm f k + f k ↔ _
  omega

set_option maxRecDepth 8000 in
set_option maxHeartbeats 4000000 in
theorem RSplit_go (T : Int) (A : Option Addr) (c : Nat) (l : List Int) (w : World) (hr : RdI w w.heap.size A c l) (hl : Nums l) (hT : 0 ≤ T ∧ T ≤ 9223372036854775807) (hln : l.length ≤ 100) :
    Calls Try.prog 9 #[.int .i64 T, .slice A l.length c] w (SpPost T l w) := by
  have SM := Lib.hid (fun W (h : Below w.heap.size w W) => RSum_any A c l W w.heap.size (hr.below h) h.size hl (by omega))
  have HR := Lib.hid hr
  have HT := Lib.hid hT
  have HL := Lib.hid hl
  obtain ⟨n, hn⟩ := named l.length
  rw [hn] at SM hln ⊢
  have HN := Lib.hid hn
  have HLN := Lib.hid hln
  have z1 : (T < 0) = False := eq_false (by omega)
  have z2 : (100 < (n : Int)) = False := eq_false (by omega)
  have hcap : n ≤ c := by have := hr.1; omega
  have HCell := Lib.hid (show 0 < n → ∃ b o, A = some ⟨b, o, none⟩ ∧ b < w.heap.size ∧ ∀ W, Below w.heap.size w W → ∀ k, k < n → W.cell? ⟨b, o + k, none⟩ = some (.int .i64 (gv l k)) from fun h0 => by
    obtain ⟨b, o, e, hb, hc⟩ := hr.2.2.2 (by rw [hn]; exact h0)
    refine ⟨b, o, e, hb, fun W hW k hk => ?_⟩
    have hk2 : k < l.length := by rw [hn]; exact hk
    rw [gv_at hk2, ← hc k hk2]; exact hW.cell (p := ⟨b, o + k, none⟩) hb)
  have hn3 : n < 1000 := by omega
  clear hr hl hT hn hln
  go_enter Try.func9, Try.ntmps9
  go_wp2_with fail
  clear z1 z2
  go_loopw [6, 7] (fun u v wr => ∃ k : Nat, k ≤ n ∧ v = .int .i64 k ∧ u = .bool (decide (0 < sm (gv l) k)) ∧ Hid (∀ j, j < k → 0 ≤ gv l j) ∧ wr = w) (fun _ v _ => n - (intOf v).toNat)
  · exact ⟨0, Nat.zero_le _, rfl, rfl, Lib.hid (fun j hj => by omega), rfl⟩
  · obtain ⟨k, hk, rfl, rfl, HJ, hw⟩ := hrel
    have hw2 := hw.symm
    clear hw
    subst hw2
    by_cases hkn : k < n
    · have z1 := lt_t hkn
      obtain ⟨b, o, rfl, hb, hc⟩ := HCell.out (by omega)
      have c1 := hc w (Below.refl _ _) k hkn
      have hdec := dec_sum (f := gv l) (k := k)
      obtain ⟨x, hx⟩ := named (gv l k)
      rw [hx] at c1
      have HX := Lib.hid hx
      by_cases h1 : x < 0
      · have z2 : (x < 0) = True := eq_true h1
        have HP := Lib.hid (show spE T l = 1 ∧ shl T l = [] from spE_a (.inr (.inr (wnB_f (k := k) (by rw [HN.out]; exact hkn) (.inl (by rw [← gv_at, hx]; exact h1))))))
        clear h1 hx hc hb hdec
        go_wp2_with fail
        go_ret2
        exact SpPost.no HP.out (Below.refl _ _)
      · have z2 : (x < 0) = False := eq_false h1
        have HJ2 := Lib.hid (show ∀ j, j < k + 1 → 0 ≤ gv l j from fun j hj => by
          rcases Nat.lt_or_eq_of_le (Nat.le_of_lt_succ hj) with y | rfl
          · exact HJ.out j y
          · rw [hx]; omega)
        have hd := hdec HJ2.out
        rw [hx] at hd
        have HD := Lib.hid hd
        by_cases h2 : 0 < sm (gv l) k
        · have HE := Lib.hid (show decide (0 < sm (gv l) (k + 1)) = true from decide_eq_true (hd.2 (.inl h2)))
          rw [decide_eq_true h2]
          clear h1 hx hc hb hdec hd h2
          go_wp2_with fail
          go_roundw
          case rel => exact ⟨k + 1, by omega, by go_num, by rw [HE.out], HJ2, trivial⟩
          case measure => simp [intOf]; omega
        · rw [decide_eq_false h2]
          by_cases h3 : 0 < x
          · have z3 : (0 < x) = True := eq_true h3
            have HE := Lib.hid (show decide (0 < sm (gv l) (k + 1)) = true from decide_eq_true (hd.2 (.inr h3)))
            clear h1 hx hc hb hdec hd h2 h3
            go_wp2_with fail
            go_roundw
            case rel => exact ⟨k + 1, by omega, by go_num, by rw [HE.out], HJ2, trivial⟩
            case measure => simp [intOf]; omega
          · have z3 : (0 < x) = False := eq_false h3
            have HE := Lib.hid (show decide (0 < sm (gv l) (k + 1)) = false from decide_eq_false fun c => (hd.1 c).elim h2 h3)
            clear h1 hx hc hb hdec hd h2 h3
            go_wp2_with fail
            go_roundw
            case rel => exact ⟨k + 1, by omega, by go_num, by rw [HE.out], HJ2, trivial⟩
            case measure => simp [intOf]; omega
    · obtain rfl : k = n := by omega
      have z1 := lt_f (Nat.le_refl k)
      have hw1 : wnB 0 9223372036854775807 [T] = true := wnB_t (fun j hj => by have : j = 0 := by simpa using hj
                                                                               subst this; exact ⟨HT.out.1, HT.out.2⟩)
      have hw2 : wnB 0 9223372036854775807 l = true := wnB_t (fun j hj => ⟨by rw [← gv_at hj]; exact HJ.out j (by rw [← HN.out]; exact hj), (HL.out.at hj).2⟩)
      have HW := Lib.hid (And.intro hw1 hw2)
      have HNO := Lib.hid (show ¬ (100 < l.length ∨ wnB 0 9223372036854775807 [T] = false ∨ wnB 0 9223372036854775807 l = false) by rw [HN.out, hw1, hw2]; simp; exact HLN.out)
      have hsg := sum_gv l
      rw [HN.out] at hsg
      rw [← hsg]
      obtain ⟨S, hS⟩ := named l.sum
      rw [hS] at SM ⊢
      have HSS := Lib.hid hS
      have B0 := Lib.hid (Below.refl w.heap.size w)
      clear hw1 hw2 hkn hsg
      cases hi : isn S with
      | false =>
        rw [na_f hi, ne_f hi] at SM
        have HP := Lib.hid (spE_o (T := T) (l := l) HNO.out (by rw [hS]; exact hi))
        clear hi hS
        go_wp2_with fail
        refine (SM.out _ B0.out).mono ?_
        rintro e w2 ⟨rfl, hb⟩
        have B2 := Lib.hid (B0.out.trans (hb.mono B0.out.size))
        clear hb
        go_wp2_with fail
        go_ret2
        exact SpPost.no HP.out B2.out
      | true =>
        rw [na_t hi, ne_t hi] at SM
        by_cases h0 : S = 0
        · have HP := Lib.hid (spE_z (T := T) (l := l) HNO.out (by rw [hS]; exact hi) (by rw [hS]; exact h0))
          subst h0
          rw [show decide ((0 : Int) < 0) = false from rfl]
          clear hi hS
          go_wp2_with fail
          refine (SM.out _ B0.out).mono ?_
          rintro e w2 ⟨rfl, hb⟩
          have B2 := Lib.hid (B0.out.trans (hb.mono B0.out.size))
          clear hb
          go_wp2_with fail
          go_ret2
          exact SpPost.no HP.out B2.out
        · have HP := Lib.hid (spE_y (T := T) (l := l) HNO.out (by rw [hS]; exact hi) (by rw [hS]; exact h0))
          have hSh := sh_of HW.out.1 HW.out.2 (by rw [hS]; exact h0)
          rw [hS, HN.out] at hSh
          have HSh := Lib.hid hSh
          have hSb := (isn_iff S).1 hi
          rw [decide_eq_true hSh.a0]
          clear hi hS h0
          go_wp2_with fail
          refine (SM.out _ B0.out).mono ?_
          rintro e w2 ⟨rfl, hb⟩
          have B2 := Lib.hid (B0.out.trans (hb.mono B0.out.size))
          clear hb
          go_wp2_with fail
          have hn0 : 1 ≤ k := by
            rcases Nat.eq_zero_or_pos k with e | e
            · exfalso; have := HSh.out.a; have h2 := HSh.out.a0; rw [e] at this; simp only [sm] at this; omega
            · exact e
          obtain ⟨b, o, hAe, hbw, hcell⟩ := HCell.out hn0
          subst hAe
          have HCe := Lib.hid hcell
          have HBN := Lib.hid (And.intro hbw hn0)
          have PT := Lib.hid (fun j (hj : j < k) W => RPart_yes T (gv l j) S W HT.out.1 HT.out.2 (HSh.out.w0 j hj) (by
            have := sm_at_le (f := gv l) (n := k) HSh.out.w0 hj; rw [HSh.out.a] at this; omega) (by have := HSh.out.a0; omega) hSb.2)
          have IQ := Lib.hid (fun j (hj : j < k) => (isn_iff (qv T (gv l) S j)).2 ⟨by have := HSh.out.q0 hj; omega, by have := HSh.out.q_le hj; have h3 := HT.out.2; omega⟩)
          clear hcell hbw hn0 hSb HCell SM z1 B0 hk
          go_loopw [10, 11, 12, 13, 14, 15, 16] (fun u10 u11 u12 u13 _ _ _ wr2 => ∃ (i : Nat) (A1 : Option Addr) (c1 : Nat) (A2 : Option Addr) (c2 : Nat), i ≤ k ∧ u10 = .slice A1 i c1 ∧ u11 = .slice A2 i c2 ∧ u12 = .int .i64 (T - sm (qv T (gv l) S) i) ∧ u13 = .int .i64 i ∧
            Hid (OwnJ 2 wr2 w.heap.size (.slice A1 i c1) (tl i (qv T (gv l) S))) ∧ Hid (OwnJ 2 wr2 w.heap.size (.slice A2 i c2) (tl i (rv T (gv l) S))) ∧ Hid (Apa (.slice A1 i c1) (.slice A2 i c2)) ∧ Hid (Below w.heap.size w wr2)) (fun _ _ _ u13 _ _ _ _ => k - (intOf u13).toNat)
          · exact ⟨0, none, 0, none, 0, Nat.zero_le _, rfl, rfl, by show Value.int .i64 T = .int .i64 (T - 0); rw [Int.sub_zero], rfl, Lib.hid (OwnJ.nil _ _ _), Lib.hid (OwnJ.nil _ _ _), Lib.hid (.inl rfl), B2⟩
          · clear B2
            obtain ⟨i, A1, c1, A2, c2, hik, rfl, rfl, rfl, rfl, HO1, HO2, HAp, HB⟩ := hrel
            by_cases hlt : i < k
            · have z1 := lt_t hlt
              have e1 := HCe.out _ HB.out i hlt
              have C := PT.out i hlt
              have hq := IQ.out i hlt
              have hqe : T * gv l i / S = qv T (gv l) S i := rfl
              have hre : T * gv l i % S = rv T (gv l) S i := rfl
              rw [hqe, hre] at C
              unfold pr at C
              rw [na_t hq, ne_t hq, hq] at C
              simp only [if_true] at C
              have hsm : T - sm (qv T (gv l) S) i - qv T (gv l) S i = T - sm (qv T (gv l) S) (i + 1) := by show _ = T - (sm (qv T (gv l) S) i + qv T (gv l) S i); omega
              have t1 := tl_succ i (qv T (gv l) S)
              have t2 := tl_succ i (rv T (gv l) S)
              have hl1 := tl_len i (qv T (gv l) S)
              have hl2 := tl_len i (rv T (gv l) S)
              have hsb : 0 ≤ sm (qv T (gv l) S) (i + 1) ∧ sm (qv T (gv l) S) (i + 1) ≤ T := by
                refine ⟨sm_nonneg fun j hj => HSh.out.q0 (by omega), ?_⟩
                have h0 := HSh.out.left0
                have mono : ∀ d, i + 1 + d ≤ k → sm (qv T (gv l) S) (i + 1) ≤ sm (qv T (gv l) S) (i + 1 + d) := by
                  intro d
                  induction d with
                  | zero => intro _; exact Int.le_refl _
                  | succ d ihd =>
                    intro hd
                    have a := ihd (by omega)
                    have b := HSh.out.q0 (i := i + 1 + d) (by omega)
                    show _ ≤ sm (qv T (gv l) S) (i + 1 + d) + qv T (gv l) S (i + 1 + d)
                    omega
                have m := mono (k - (i + 1)) (by omega)
                rw [show i + 1 + (k - (i + 1)) = k by omega] at m
                unfold lf at h0
                omega
              have hT2 := HT.out.2
              obtain ⟨q, hqv⟩ := named (qv T (gv l) S i)
              obtain ⟨t, htv⟩ := named (rv T (gv l) S i)
              obtain ⟨s1, hs1⟩ := named (T - sm (qv T (gv l) S) i)
              obtain ⟨s2, hs2⟩ := named (T - sm (qv T (gv l) S) (i + 1))
              rw [hqv, htv] at C
              rw [hqv] at t1
              rw [htv] at t2
              rw [hqv, hs1, hs2] at hsm
              rw [hs1]
              obtain ⟨L1, hL1⟩ := named (tl i (qv T (gv l) S))
              obtain ⟨L2, hL2⟩ := named (tl i (rv T (gv l) S))
              rw [hL1] at t1 HO1 hl1
              rw [hL2] at t2 HO2 hl2
              obtain ⟨y, hy⟩ := named (gv l i)
              rw [hy] at e1 C
              have K1 := Lib.hid (show wrap64 (s1 - q) = s2 by rw [← wrapEq, hsm, IntKind.wrap_i64]; omega)
              have HCC := Lib.hid C
              have HTL := Lib.hid (And.intro t1 (And.intro t2 hs2))
              have HLl := Lib.hid (And.intro hl1 hl2)
              clear C hq hqe hre hqv htv hs1 hs2 hsm hsb hT2 hL1 hL2 hy t1 t2 hl1 hl2
              go_wp2_with fail
              refine (HCC.out _).mono ?_
              rintro e w3 ⟨rfl, hb⟩
              have HO1b := Lib.hid (HO1.out.below hb (Nat.le_refl _))
              have HO2b := Lib.hid (HO2.out.below hb (Nat.le_refl _))
              have B3 := Lib.hid (HB.out.trans (hb.mono HB.out.size))
              clear hb
              have hoA : Hid (OwnJ 2 (w3.alloc (.cells #[.int .i64 q] 2)) w.heap.size (.slice A1 i c1) L1) := Lib.hid (HO1b.out.below ((Below.refl w3.heap.size w3).alloc (Nat.le_refl _) _) (Nat.le_refl _))
              have hoB : Hid (OwnJ 2 (w3.alloc (.cells #[.int .i64 q] 2)) w.heap.size (.slice A2 i c2) L2) := Lib.hid (HO2b.out.below ((Below.refl w3.heap.size w3).alloc (Nat.le_refl _) _) (Nat.le_refl _))
              have hrA : Hid (RdI (w3.alloc (.cells #[.int .i64 q] 2)) (w3.heap.size + 1) (some ⟨w3.heap.size, 0, none⟩) 1 [q]) := Lib.hid (RdI.lit w3 [q] 2 (by unfold maxLen; simp))
              go_upto_region 22 with (at_builtin; refine wpList_append_j ityL rfl _ _ rfl w.heap.size _ _ rfl hoA.out (w3.heap.size + 1) _ _ 1 [q] rfl rfl hrA.out (by have := HLl.out; simp; omega) (by have := B3.out.size; simp; omega) ?_; intro v4 w4 hown4 hg4 hat4)
              obtain ⟨A3, c3, hv4, _⟩ := hown4.form
              rw [show (L1 ++ [q]).length = i + 1 by have := HLl.out.1; simp; omega] at hv4
              subst hv4
              have hs2 := own2_step hoB.out hg4 hat4 HAp.out
              have HO2c := Lib.hid hs2.1
              have HO1c := Lib.hid hown4
              have B4 := Lib.hid ((B3.out.alloc B3.out.size (.cells #[.int .i64 q] 2)).grown hg4 (by have := B3.out.size; simp; omega) (fun j e => (World.ownsRow.lt hoA.out j e).1))
              have HAp4 := Lib.hid hs2.2
              clear hs2 hown4 hg4 hat4 hoA hoB hrA HO1b HO2b
              have hoB : Hid (OwnJ 2 (w4.alloc (.cells #[.int .i64 t] 2)) w.heap.size (.slice A2 i c2) L2) := Lib.hid (HO2c.out.below ((Below.refl w4.heap.size w4).alloc (Nat.le_refl _) _) (Nat.le_refl _))
              have hoA : Hid (OwnJ 2 (w4.alloc (.cells #[.int .i64 t] 2)) w.heap.size (.slice A3 (i + 1) c3) (L1 ++ [q])) := Lib.hid (HO1c.out.below ((Below.refl w4.heap.size w4).alloc (Nat.le_refl _) _) (Nat.le_refl _))
              have hrA : Hid (RdI (w4.alloc (.cells #[.int .i64 t] 2)) (w4.heap.size + 1) (some ⟨w4.heap.size, 0, none⟩) 1 [t]) := Lib.hid (RdI.lit w4 [t] 2 (by unfold maxLen; simp))
              go_upto_region 23 with (at_builtin; refine wpList_append_j ityL rfl _ _ rfl w.heap.size _ _ rfl hoB.out (w4.heap.size + 1) _ _ 1 [t] rfl rfl hrA.out (by have := HLl.out; simp; omega) (by have := B4.out.size; simp; omega) ?_; intro v5 w5 hown5 hg5 hat5)
              obtain ⟨A4, c4, hv5, _⟩ := hown5.form
              rw [show (L2 ++ [t]).length = i + 1 by have := HLl.out.2; simp; omega] at hv5
              subst hv5
              have hs2 := own2_step hoA.out hg5 hat5 HAp4.out.symm
              have HO1d := Lib.hid hs2.1
              have HO2d := Lib.hid hown5
              have B5 := Lib.hid ((B4.out.alloc B4.out.size (.cells #[.int .i64 t] 2)).grown hg5 (by have := B4.out.size; simp; omega) (fun j e => (World.ownsRow.lt hoB.out j e).1))
              have HAp5 := Lib.hid hs2.2.symm
              clear hs2 hown5 hg5 hat5 hoA hoB hrA HO1c HO2c
              have k1 := K1.out
              go_wp2_with fail
              clear k1
              go_roundw
              case rel => exact ⟨i + 1, A3, c3, A4, c4, by omega, by first | rfl | go_num, by first | rfl | go_num, by rw [HTL.out.2.2, K1.out], by go_num, by rw [HTL.out.1]; exact HO1d, by rw [HTL.out.2.1]; exact HO2d, HAp5, B5⟩
              case measure => simp [intOf]; omega
            · obtain rfl : i = k := by omega
              have z1 := lt_f (Nat.le_refl i)
              obtain ⟨g1, d1, hv1, hg1, HZ1⟩ := ownJ_row HO1.out HBN.out.2
              obtain ⟨g2, d2, hv2, hg2, HZ2⟩ := ownJ_row HO2.out HBN.out.2
              have hap := HAp.out
              rw [hv1, hv2] at hap ⊢
              have hgg : g1 ≠ g2 := by rcases hap with h | h | h; (simp [Value.ownBlock] at h); (simp [Value.ownBlock] at h); exact fun e => h (by rw [e]; rfl)
              obtain ⟨t0, ht0⟩ : ∃ t0 : Nat, lf T (gv l) i S = t0 := ⟨(lf T (gv l) i S).toNat, by have := HSh.out.left0; omega⟩
              have HT0 := Lib.hid (And.intro ht0 (show t0 ≤ i by have := HSh.out.left_n; omega))
              rw [show T - sm (qv T (gv l) S) i = (t0 : Int) by rw [← ht0]; rfl]
              have HG := Lib.hid (And.intro hg1 (And.intro hg2 hgg))
              have Y1 := Lib.hid (show RowZ wr g1 i (shr (qv T (gv l) S) (rv T (gv l) S) i 0) from HZ1.congr fun k hk => by unfold shr; rw [if_neg (had_zero _ _ _)]; omega)
              have Y2 := Lib.hid (show RowZ wr g2 i (rst (rv T (gv l) S) i 0) from HZ2.congr fun k hk => by unfold rst; rw [if_neg (had_zero _ _ _)])
              have c1 : i ≤ d1 := hg1.2.1
              have c2 : i ≤ d2 := hg2.2.1
              clear hlt hv1 hv2 hg1 hg2 HZ1 HZ2 hap hgg ht0 HO1 HO2 HAp PT IQ HCe hik
              go_wp2_with fail
              clear z1
              go_loopw [12, 17, 18] (fun u12 _ _ wr3 => ∃ t : Nat, Hid (t ≤ t0) ∧ u12 = .int .i64 ((t0 : Int) - (t : Int)) ∧ Hid (RowZ wr3 g1 i (shr (qv T (gv l) S) (rv T (gv l) S) i t)) ∧ Hid (RowZ wr3 g2 i (rst (rv T (gv l) S) i t)) ∧ Hid (Below w.heap.size w wr3)) (fun u12 _ _ _ => (intOf u12).toNat)
              · exact ⟨0, Lib.hid (Nat.zero_le _), by simp, Y1, Y2, HB⟩
              · clear Y1 Y2 HB
                obtain ⟨t, HTT, rfl, HZ1, HZ2, HB⟩ := hrel
                have htt := HTT.out
                have ht0 := HT0.out
                by_cases hlt : t < t0
                · have z1 : (0 < (t0 : Int) - (t : Int)) = True := eq_true (by omega)
                  have K1 := Lib.hid (show wrap64 ((t0 : Int) - (t : Int) - 1) = (t0 : Int) - ((t + 1 : Nat) : Int) by rw [← wrapEq, IntKind.wrap_i64]; omega)
                  have HH := Lib.hid (show t < i ∧ t < t0 by omega)
                  obtain ⟨u, hu⟩ := named ((t0 : Int) - (t : Int))
                  rw [hu] at K1 z1 ⊢
                  have HU := Lib.hid hu
                  clear hu htt ht0 hlt
                  go_wp2_with fail
                  go_loopw [17, 18] (fun v17 v18 wr4 => ∃ (x : Nat) (b : Int), x ≤ i ∧ v17 = .int .i64 b ∧ v18 = .int .i64 x ∧ Hid (Best (rv T (gv l) S) i t x b) ∧ Hid (RowZ wr4 g1 i (shr (qv T (gv l) S) (rv T (gv l) S) i t)) ∧ Hid (RowZ wr4 g2 i (rst (rv T (gv l) S) i t)) ∧ Hid (Below w.heap.size w wr4)) (fun _ v18 _ => i - (intOf v18).toNat)
                  · exact ⟨0, -1, Nat.zero_le _, rfl, rfl, Lib.hid (Best.zero _ _ _), HZ1, HZ2, HB⟩
                  · clear HZ1 HZ2 HB
                    obtain ⟨x, b2, hx, rfl, rfl, HBe, HZ1, HZ2, HB⟩ := hrel
                    by_cases hxi : x < i
                    · have z2 := lt_t hxi
                      have e1 := HZ2.out.c x hxi
                      unfold rst at e1
                      have r0 := (HSh.out.r0 x).1
                      by_cases hhad : had (rv T (gv l) S) i t x
                      · rw [if_pos hhad] at e1
                        have HN2 := Lib.hid (HBe.out.skip hhad)
                        clear hhad r0
                        go_wp2_with fail
                        go_quiet (fail)
                        rename_i nq
                        go_wp2_with fail
                        go_roundw
                        case rel => exact ⟨x + 1, b2, by omega, rfl, by go_num, HN2, Lib.hid (HZ1.out.drewN nq), Lib.hid (HZ2.out.drewN nq), Lib.hid (below_drewN HB.out nq)⟩
                        case measure => simp [intOf]; omega
                      · rw [if_neg hhad] at e1
                        rcases hb : HBe.out with ⟨hm, _⟩ | ⟨p, hm, hp1, hp2, hp3⟩
                        · have HN2 := Lib.hid (by have := HBe.out; rw [hm] at this; exact this.fst hhad)
                          subst hm
                          obtain ⟨y, hy⟩ := named (rv T (gv l) S x)
                          rw [hy] at e1 r0
                          have z3 : (0 ≤ y) = True := eq_true r0
                          clear hhad r0 hy hb
                          go_wp2_with fail
                          go_quiet (fail)
                          rename_i nq
                          go_wp2_with fail
                          go_roundw
                          case rel => exact ⟨x + 1, x, by omega, rfl, by go_num, HN2, Lib.hid (HZ1.out.drewN nq), Lib.hid (HZ2.out.drewN nq), Lib.hid (below_drewN HB.out nq)⟩
                          case measure => simp [intOf]; omega
                        · have e2 := HZ2.out.c p (by omega)
                          unfold rst at e2
                          rw [if_neg hp2] at e2
                          have HBe2 := HBe.out
                          rw [hm] at HBe2
                          have z5 : ((p : Int) < 0) = False := eq_false (by omega)
                          have i3 : (p : Int) < (i : Int) := by omega
                          subst hm
                          by_cases hgt : rv T (gv l) S p < rv T (gv l) S x
                          · have HN2 := Lib.hid (HBe2.more hhad hgt)
                            obtain ⟨y, hy⟩ := named (rv T (gv l) S x)
                            obtain ⟨z, hz⟩ := named (rv T (gv l) S p)
                            rw [hy] at e1 r0 hgt
                            rw [hz] at e2 hgt
                            have z3 : (0 ≤ y) = True := eq_true r0
                            have z6 : (z < y) = True := eq_true hgt
                            clear hhad r0 hy hb hz hgt hp1 hp2 hp3 HBe2
                            go_wp2_with fail
                            go_quiet (fail)
                            rename_i nq
                            go_wp2_with fail
                            go_roundw
                            case rel => exact ⟨x + 1, x, by omega, rfl, by go_num, HN2, Lib.hid (HZ1.out.drewN nq), Lib.hid (HZ2.out.drewN nq), Lib.hid (below_drewN HB.out nq)⟩
                            case measure => simp [intOf]; omega
                          · have HN2 := Lib.hid (HBe2.less (Int.not_lt.1 hgt))
                            obtain ⟨y, hy⟩ := named (rv T (gv l) S x)
                            obtain ⟨z, hz⟩ := named (rv T (gv l) S p)
                            rw [hy] at e1 r0 hgt
                            rw [hz] at e2 hgt
                            have z3 : (0 ≤ y) = True := eq_true r0
                            have z6 : (z < y) = False := eq_false hgt
                            clear hhad r0 hy hb hz hgt hp1 hp2 hp3 HBe2
                            go_wp2_with fail
                            go_quiet (fail)
                            rename_i nq
                            go_wp2_with fail
                            go_roundw
                            case rel => exact ⟨x + 1, p, by omega, rfl, by go_num, HN2, Lib.hid (HZ1.out.drewN nq), Lib.hid (HZ2.out.drewN nq), Lib.hid (below_drewN HB.out nq)⟩
                            case measure => simp [intOf]; omega
                    · obtain rfl : x = i := by omega
                      have z2 := lt_f (Nat.le_refl x)
                      have hbe := HBe.out.done HH.out.1
                      have hp := nxt_lt (r := rv T (gv l) S) HH.out.1
                      obtain ⟨e1, e2⟩ := shr_next (q := qv T (gv l) S) (r := rv T (gv l) S) HH.out.1
                      have e3 := rst_next (r := rv T (gv l) S) HH.out.1
                      have ht0 := HT0.out
                      have hbd := HSh.out.shr_le (k := t + 1) (i := nxt (rv T (gv l) S) x t) (by have := HH.out.2; omega) hp
                      rw [← e1] at hbd
                      obtain ⟨p, hpp⟩ := named (nxt (rv T (gv l) S) x t)
                      rw [hpp] at hbe hp e1 e2 e3 hbd
                      subst hbe
                      have c3 := HZ1.out.c p hp
                      have f3 := HZ1.out.z p
                      have c4 := HZ2.out.c p hp
                      have f4 := HZ2.out.z p
                      have hG := HG.out
                      have hT2 := HT.out.2
                      have U1 := Lib.hid (((HZ1.out.set hp (shr (qv T (gv l) S) (rv T (gv l) S) x t p + 1)).other (p := ⟨g2, p, none⟩) (fun e => hG.2.2 e.symm) (.int .i64 (-1))).congr fun j _ => e2 j)
                      have U2 := Lib.hid (((HZ2.out.other (p := ⟨g1, p, none⟩) hG.2.2 (.int .i64 (shr (qv T (gv l) S) (rv T (gv l) S) x t p + 1))).set hp (-1)).congr fun j _ => e3 j)
                      have U3 := Lib.hid (bel_set (k := g2) (i := p) (bel_set (k := g1) (i := p) HB.out hG.1.1 (.int .i64 (shr (qv T (gv l) S) (rv T (gv l) S) x t p + 1))) hG.2.1.1 (.int .i64 (-1)))
                      obtain ⟨y, hy⟩ := named (shr (qv T (gv l) S) (rv T (gv l) S) x t p)
                      rw [hy] at c3 U1 U2 U3 hbd
                      obtain ⟨z, hz⟩ := named (rst (rv T (gv l) S) x t p)
                      rw [hz] at c4
                      have K2 := Lib.hid (show wrap64 (y + 1) = y + 1 by rw [← wrapEq, IntKind.wrap_i64]; omega)
                      have i3 : (p : Int) < (x : Int) := by omega
                      have hne1 : g1 ≠ g2 := hG.2.2
                      have hne2 : g2 ≠ g1 := fun e => hG.2.2 e.symm
                      clear hp e1 e2 e3 ht0 hbd hpp hG hT2 hy hz hxi HBe
                      have k1 := K1.out
                      have k2 := K2.out
                      go_wp2_with fail
                      clear k1 k2
                      go_roundw
                      case rel => exact ⟨t + 1, Lib.hid (by have := HH.out.2; omega), by rw [K1.out], U1, U2, U3⟩
                      case measure => rw [K1.out]; have h1 := HH.out; have h2 := HU.out; clear K1 K2; simp only [intOf]; omega
                · obtain rfl : t = t0 := by omega
                  have z1 : (0 < (t : Int) - (t : Int)) = False := eq_false (by omega)
                  clear hlt htt ht0
                  go_wp2_with fail
                  go_ret2
                  have hp := HP.out
                  rw [HSS.out, HN.out, HT0.out.1, Int.toNat_natCast] at hp
                  refine ⟨some ⟨g1, 0, none⟩, d1, ?_, ?_, HB.out⟩
                  · rw [hp.1, hp.2, tl_len]; rfl
                  · rw [hp.2]; exact HZ1.out.rd HG.out.1.2.1 HG.out.1.2.2
end Go.Proofs.Ytbiofjddclbncaa.Sr
