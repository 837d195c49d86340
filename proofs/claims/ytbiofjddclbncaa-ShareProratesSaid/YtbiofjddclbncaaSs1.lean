import Derived.Test.YtbiofjddclbncaaSm9
import Derived.Laws.CopyRow
import Derived.Laws.CopyOwn
import Derived.Laws.Tables
namespace Go.Proofs.Ytbiofjddclbncaa.Sr
set_option linter.unusedVariables false
set_option linter.unusedSimpArgs false
open Go.RowKit Mem Mo
/-- All from lo to hi. -/
def wnB (lo hi : Int) (l : List Int) : Bool := decide (∀ x ∈ l, lo ≤ x ∧ x ≤ hi)
theorem wnB_t {lo hi : Int} {l : List Int} (h : ∀ k (hk : k < l.length), lo ≤ l[k] ∧ l[k] ≤ hi) : wnB lo hi l = true := by
  unfold wnB
  simp only [decide_eq_true_eq]
  intro x hx
  obtain ⟨k, hk, rfl⟩ := List.mem_iff_getElem.1 hx
  exact h k hk
theorem wnB_f {lo hi : Int} {l : List Int} {k : Nat} (hk : k < l.length) (h : l[k] < lo ∨ hi < l[k]) : wnB lo hi l = false := by
  unfold wnB
  simp only [decide_eq_false_iff_not]
  intro c
  have := c _ (List.getElem_mem hk)
  omega

set_option maxHeartbeats 400000 in
theorem within_any (lo hi : Int) (A : Option Addr) (c : Nat) (l : List Int) (w : World) (B : Nat) (hr : RdI w B A c l) :
    Calls Try.prog 16 #[.int .i64 lo, .int .i64 hi, .slice A l.length c] w fun e w' => e = .returned (.bool (wnB lo hi l)) ∧ w' = w := by
  have HR := Lib.hid hr
  obtain ⟨n, hnl⟩ := named l.length
  have HN := Lib.hid hnl
  have hn : n ≤ maxLen := by have := hr.1; have := hr.2.1; omega
  unfold maxLen at hn
  rw [hnl]
  clear hr hnl
  go_enter Try.func16, Try.ntmps16
  go_wp2_with fail
  go_loopw [8, 11] (fun _ v wr => ∃ k : Nat, k ≤ n ∧ v = .int .i64 k ∧ Hid (∀ j (hj : j < l.length), j < k → lo ≤ l[j] ∧ l[j] ≤ hi) ∧ wr = w) (fun _ v _ => n - (intOf v).toNat)
  · exact ⟨0, by omega, rfl, Lib.hid (fun j hj h => by omega), rfl⟩
  · obtain ⟨k, hk, rfl, HJ, rfl⟩ := hrel
    by_cases hkn : k < n
    · have z1 := lt_t hkn
      obtain ⟨b, o, rfl, hb, hc⟩ := HR.out.2.2.2 (by have := HN.out; omega)
      have hkl : k < l.length := by rw [HN.out]; exact hkn
      have c1 := hc k hkl
      obtain ⟨x, hx⟩ := named l[k]
      rw [hx] at c1
      have HX := Lib.hid hx
      clear hc hx
      by_cases h1 : x < lo
      · have z2 : (x < lo) = True := eq_true h1
        have HW := Lib.hid (wnB_f (lo := lo) (hi := hi) hkl (by rw [HX.out]; exact .inl h1))
        clear h1
        go_wp2_with fail
        go_ret
        exact ⟨by rw [HW.out]; rfl, rfl⟩
      · by_cases h2 : hi < x
        · have z2 : (x < lo) = False := eq_false h1
          have z3 : (hi < x) = True := eq_true h2
          have HW := Lib.hid (wnB_f (lo := lo) (hi := hi) hkl (by rw [HX.out]; exact .inr h2))
          clear h1 h2
          go_wp2_with fail
          go_ret
          exact ⟨by rw [HW.out]; rfl, rfl⟩
        · have z2 : (x < lo) = False := eq_false h1
          have z3 : (hi < x) = False := eq_false h2
          have HJ2 := Lib.hid (show ∀ j (hj : j < l.length), j < k + 1 → lo ≤ l[j] ∧ l[j] ≤ hi from fun j hj h => by
            rcases Nat.lt_or_eq_of_le (Nat.le_of_lt_succ h) with y | rfl
            · exact HJ.out j hj y
            · rw [HX.out]; omega)
          clear h1 h2
          go_wp2_with fail
          go_roundw
          case rel => exact ⟨k + 1, by omega, by go_num, HJ2, trivial⟩
          case measure => simp [intOf]; omega
    · obtain rfl : k = n := by omega
      have z1 := lt_f (Nat.le_refl k)
      have HW := Lib.hid (wnB_t (lo := lo) (hi := hi) (l := l) (fun j hj => HJ.out j hj (by rw [← HN.out]; exact hj)))
      go_wp2_with fail
      go_ret
      exact ⟨by rw [HW.out]; rfl, rfl⟩

set_option maxHeartbeats 400000 in
theorem sum_any (A : Option Addr) (c : Nat) (l : List Int) (w : World) (B : Nat) (hr : RdI w B A c l) (hB : B ≤ w.heap.size) (hl : Nums l) (hn : l.length ≤ 1000) :
    Calls Try.prog 20 #[.slice A l.length c] w fun e w' => e = .returned (.int .i64 (na l.sum)) ∧ Below w.heap.size w w' := by
  have C := Lib.hid (Sum_any A c l w B hr hB hl (by omega))
  clear hr hB hl hn
  generalize na l.sum = v1 at *
  generalize ne l.sum = v2 at *
  go_enter Try.func20, Try.ntmps20
  go_wp2_with fail
  refine C.out.mono ?_
  rintro e w1 ⟨rfl, hb⟩
  have B1 := Lib.hid hb
  clear hb
  go_wp2_with fail
  go_ret
  exact ⟨rfl, B1.out⟩

set_option maxHeartbeats 2000000 in
theorem parts_any (b1 o1 c1 b2 o2 c2 n n2 : Nat) (f1 f2 : Nat → Int) (d : Int) (w : World) (hb1 : b1 < w.heap.size) (hb2 : b2 < w.heap.size) (h1 : ∀ k, k < n → w.cell? ⟨b1, o1 + k, none⟩ = some (.int .i64 (f1 k))) (h2 : ∀ k, k < n → w.cell? ⟨b2, o2 + k, none⟩ = some (.int .i64 (f2 k))) (hn2 : n ≤ n2)
    (hn1 : n ≤ 100) (hd : 1 ≤ d) (hd2 : d ≤ 9223372036854775807) (hf1 : ∀ k, k < n → 0 ≤ f1 k ∧ f1 k ≤ 9223372036854775807) (hf2 : ∀ k, k < n → 0 ≤ f2 k ∧ f2 k ≤ 9223372036854775807) (hq : ∀ k, k < n → isn (f1 k * f2 k / d) = true) :
    Calls Try.prog 18 #[.slice (some ⟨b1, o1, none⟩) n c1, .slice (some ⟨b2, o2, none⟩) n2 c2, .int .i64 d] w fun e w' => ∃ g1 g2, e = .returned (.tuple #[.slice (some ⟨g1, 0, none⟩) n n, .slice (some ⟨g2, 0, none⟩) n n]) ∧ (w.heap.size ≤ g1 ∧ g1 < g2) ∧ RowZ w' g1 n (fun k => f1 k * f2 k / d) ∧ RowZ w' g2 n (fun k => f1 k * f2 k % d) ∧ Below w.heap.size w w' := by
  have hmk := make_any ityL n (by omega)
  have HC := Lib.hid (fun k (hk : k < n) W => Part_yes (f1 k) (f2 k) d W (hf1 k hk).1 (hf1 k hk).2 (hf2 k hk).1 (hf2 k hk).2 hd hd2)
  have HQ := Lib.hid hq
  have H1 := Lib.hid (fun W (hW : Below w.heap.size w W) k (hk : k < n) => (hW.cell (p := ⟨b1, o1 + k, none⟩) hb1).trans (h1 k hk))
  have H2 := Lib.hid (fun W (hW : Below w.heap.size w W) k (hk : k < n) => (hW.cell (p := ⟨b2, o2 + k, none⟩) hb2).trans (h2 k hk))
  have hn3 : n < 1000 := by omega
  clear hb1 hb2 h1 h2 hn1 hd hd2 hf1 hf2 hq
  go_enter Try.func18, Try.ntmps18
  go_wp2_with fail
  obtain ⟨g, hg⟩ := named w.heap.size
  rw [hg]
  obtain ⟨W0, hW0⟩ : ∃ W0, ((w.alloc (.cells (Array.replicate n (.int .i64 0)) 2)).alloc (.cells (Array.replicate n (.int .i64 0)) 2)) = W0 := ⟨_, rfl⟩
  have hB0 : Below w.heap.size w W0 := by rw [← hW0]; exact ((Below.refl _ _).alloc (Nat.le_refl _) _).alloc (by simp) _
  have hZ1 : RowZ W0 g n (fun _ => 0) := by
    rw [← hW0, ← hg]
    exact (RowZ.new w n 2).bel ((Below.refl _ _).alloc (Nat.le_refl _) _)
  have hZ2 : RowZ W0 (g + 1) n (fun _ => 0) := by
    rw [← hW0]
    have := RowZ.new (w.alloc (.cells (Array.replicate n (.int .i64 0)) 2)) n 2
    rw [size_alloc', hg] at this; exact this
  have HZ1 := Lib.hid hZ1
  have HZ2 := Lib.hid hZ2
  have HB := Lib.hid hB0
  have HG := Lib.hid hg
  clear hZ1 hZ2 hB0 hg hmk
  rw [hW0]
  clear hW0
  go_loopw [8, 9, 18] (fun _ _ v wr => ∃ k : Nat, k ≤ n ∧ v = .int .i64 k ∧ Hid (RowZ wr g n (fun x => if x < k then f1 x * f2 x / d else 0)) ∧ Hid (RowZ wr (g + 1) n (fun x => if x < k then f1 x * f2 x % d else 0)) ∧ Hid (Below w.heap.size w wr)) (fun _ _ v _ => n - (intOf v).toNat)
  · exact ⟨0, Nat.zero_le _, rfl, Lib.hid (HZ1.out.congr fun k _ => by rw [if_neg (by omega)]), Lib.hid (HZ2.out.congr fun k _ => by rw [if_neg (by omega)]), HB⟩
  · clear HZ1 HZ2 HB
    obtain ⟨k, hk, rfl, HZ1, HZ2, HB⟩ := hrel
    by_cases hkn : k < n
    · have z1 := lt_t hkn
      have i2 : (k : Int) < (n2 : Int) := by omega
      have e1 := H1.out wr HB.out k hkn
      have e2 := H2.out wr HB.out k hkn
      have C := HC.out k hkn
      have hq := HQ.out k hkn
      unfold pr at C
      rw [na_t hq, ne_t hq, hq] at C
      simp only [if_true] at C
      have hex : ∀ (f : Nat → Int) (v : Int), f k = v → ∀ x, (if x = k then v else if x < k then f x else 0) = if x < k + 1 then f x else 0 := fun f v e x => by
        by_cases h : x = k
        · rw [if_pos h, if_pos (by omega), h, e]
        · rw [if_neg h]
          by_cases h2 : x < k
          · rw [if_pos h2, if_pos (by omega)]
          · rw [if_neg h2, if_neg (by omega)]
      have X1 := Lib.hid (hex (fun x => f1 x * f2 x / d) _ rfl)
      have X2 := Lib.hid (hex (fun x => f1 x * f2 x % d) _ rfl)
      obtain ⟨q, hqv⟩ := named (f1 k * f2 k / d)
      obtain ⟨t, htv⟩ := named (f1 k * f2 k % d)
      rw [hqv, htv] at C
      rw [hqv] at X1
      rw [htv] at X2
      obtain ⟨x, hx⟩ := named (f1 k)
      obtain ⟨y, hy⟩ := named (f2 k)
      rw [hx] at e1 C
      rw [hy] at e2 C
      have HCC := Lib.hid C
      clear C hq hqv htv hx hy hex
      go_wp2_with fail
      refine (HCC.out _).mono ?_
      rintro e w1 ⟨rfl, hb⟩
      have Y1 := HZ1.out.bel hb
      have Y2 := HZ2.out.bel hb
      have B1 := Lib.hid (HB.out.trans (hb.mono HB.out.size))
      have s1 := Y1.c k hkn
      have s2 := Y2.c k hkn
      have t1 := Y1.z k
      have t2 := Y2.z k
      have G := HG.out
      have U1 := Lib.hid (((Y1.set hkn q).other (p := ⟨g + 1, k, none⟩) (by simp) (.int .i64 t)).congr fun x _ => X1.out x)
      have U2 := Lib.hid (((Y2.other (p := ⟨g, k, none⟩) (by simp) (.int .i64 q)).set hkn t).congr fun x _ => X2.out x)
      have B2 := Lib.hid (bel_set (k := g + 1) (i := k) (bel_set (k := g) (i := k) B1.out (by omega) (.int .i64 q)) (by omega) (.int .i64 t))
      clear hb Y1 Y2 G
      go_wp2_with fail
      go_roundw
      case rel => exact ⟨k + 1, by omega, by go_num, U1, U2, B2⟩
      case measure => simp [intOf]; omega
    · obtain rfl : k = n := by omega
      have z1 := lt_f (Nat.le_refl k)
      clear hkn
      go_wp2_with fail
      go_ret2
      exact ⟨g, g + 1, rfl, ⟨by have := HG.out; omega, by omega⟩, HZ1.out.congr (fun x hx => by rw [if_pos hx]), HZ2.out.congr (fun x hx => by rw [if_pos hx]), HB.out⟩
end Go.Proofs.Ytbiofjddclbncaa.Sr
