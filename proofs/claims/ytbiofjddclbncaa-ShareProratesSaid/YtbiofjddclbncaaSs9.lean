import Derived.Test.YtbiofjddclbncaaSs8
namespace Go.Proofs.Ytbiofjddclbncaa.Sr
set_option linter.unusedVariables false
set_option linter.unusedSimpArgs false
open Go.RowKit Mem Mo
theorem RSplit_any (T : Int) (A : Option Addr) (c : Nat) (l : List Int) (w : World) (hr : RdI w w.heap.size A c l) (hl : Nums l) (hT : -9223372036854775808 ≤ T ∧ T ≤ 9223372036854775807) :
    Calls Try.prog 9 #[.int .i64 T, .slice A l.length c] w (SpPost T l w) := by
  by_cases h1 : T < 0
  · exact RSplit_arg T A c l w (.inl h1) hT.2
  · by_cases h2 : 100 < l.length
    · exact RSplit_arg T A c l w (.inr ⟨by omega, h2⟩) hT.2
    · exact RSplit_go T A c l w hr hl ⟨by omega, hT.2⟩ (by omega)
theorem Prorate_any (D : Int) (A1 : Option Addr) (c1 : Nat) (a : List Int) (A2 : Option Addr) (c2 : Nat) (d : List Int) (w : World) (hr1 : RdI w w.heap.size A1 c1 a) (hr2 : RdI w w.heap.size A2 c2 d) :
    Calls Try.prog 12 #[.slice A1 a.length c1, .slice A2 d.length c2, .int .i64 D] w (PrPost a d D w) := by
  by_cases h : BadR a d D
  · exact Prorate_no D A1 c1 a A2 c2 d w hr1 hr2 h
  · exact Prorate_yes D A1 c1 a A2 c2 d w hr1 hr2 h
/-- The same numbers. -/
theorem same_any (A1 : Option Addr) (c1 : Nat) (l1 : List Int) (A2 : Option Addr) (c2 : Nat) (l2 : List Int) (w : World) (h1 : RdI w w.heap.size A1 c1 l1) (h2 : RdI w w.heap.size A2 c2 l2) :
    Calls Try.prog 10 #[.slice A1 l1.length c1, .slice A2 l2.length c2] w fun e w' => e = .returned (.bool (decide (l1 = l2))) ∧ Below w.heap.size w w' :=
  (numbers_any A1 c1 l1 A2 c2 l2 w w.heap.size h1 h2).mono fun e w' ⟨a, m, b⟩ => ⟨a, by rw [b]; exact below_drewN (Below.refl _ _) m⟩
theorem Rb {w w' : World} {A : Option Addr} {c : Nat} {l : List Int} (h : RdI w w.heap.size A c l) (hb : Below w.heap.size w w') : RdI w' w'.heap.size A c l := (h.below hb).more hb.size
theorem rdlit (w : World) (l : List Int) (h : l.length ≤ 1000) : RdI (w.alloc (.cells (l.map (Value.int .i64)).toArray 2)) (w.alloc (.cells (l.map (Value.int .i64)).toArray 2)).heap.size (some ⟨w.heap.size, 0, none⟩) l.length l := by
  have := RdI.lit w l 2 (by unfold maxLen; omega)
  rwa [← size_alloc' w (.cells (l.map (Value.int .i64)).toArray 2)] at this
theorem Ba (w : World) (o : Obj) : Below w.heap.size w (w.alloc o) := (Below.refl _ _).alloc (Nat.le_refl _) o
theorem Bt {a b c : World} (h : Below a.heap.size a b) (k : Below b.heap.size b c) : Below a.heap.size a c := h.trans (k.mono h.size)

theorem gs1 : shl 10 [1, 1, 1] = [4, 3, 3] ∧ spE 10 [1, 1, 1] = 0 := by decide +kernel
theorem gs2 : prl [10, 11] [1, 1] 3 = [3, 4] ∧ prE [10, 11] [1, 1] 3 = 0 := by decide +kernel
/-- Split of a literal. -/
theorem split_lit (T : Int) (l k : List Int) (v : Int) (hk : shl T l = k) (hv : spE T l = v) (hl : Nums l) (hn : l.length ≤ 1000) (hT : -9223372036854775808 ≤ T ∧ T ≤ 9223372036854775807) (w : World) :
    Calls Try.prog 8 #[.int .i64 T, .slice (some ⟨w.heap.size, 0, none⟩) l.length l.length] (w.alloc (.cells (l.map (Value.int .i64)).toArray 2)) fun e w' => ∃ A c, e = .returned (.tuple #[.slice A k.length c, .int .i64 v]) ∧ RdI w' w'.heap.size A c k ∧ Below w.heap.size w w' := by
  have C := Split_any T (some ⟨w.heap.size, 0, none⟩) l.length l (w.alloc (.cells (l.map (Value.int .i64)).toArray 2)) _ (rdlit w l hn) (Nat.le_refl _) hl hT
  refine C.mono fun e w' ⟨A, c, a, b, d⟩ => ⟨A, c, ?_, ?_, Bt (Ba w _) d⟩
  · rw [a, hk, hv]
  · rw [← hk]; exact b
/-- Prorate of two literals. -/
theorem pror_lit (D : Int) (a d k : List Int) (v : Int) (hk : prl a d D = k) (hv : prE a d D = v) (ha : a.length ≤ 1000) (hd : d.length ≤ 1000) (w : World) :
    Calls Try.prog 12 #[.slice (some ⟨w.heap.size, 0, none⟩) a.length a.length, .slice (some ⟨w.heap.size + 1, 0, none⟩) d.length d.length, .int .i64 D] ((w.alloc (.cells (a.map (Value.int .i64)).toArray 2)).alloc (.cells (d.map (Value.int .i64)).toArray 2)) fun e w' => ∃ A c, e = .returned (.tuple #[.slice A k.length c, .int .i64 v]) ∧ RdI w' w'.heap.size A c k ∧ Below w.heap.size w w' := by
  have h2 := rdlit (w.alloc (.cells (a.map (Value.int .i64)).toArray 2)) d hd
  rw [size_alloc' w] at h2
  have C := Prorate_any D (some ⟨w.heap.size, 0, none⟩) a.length a (some ⟨w.heap.size + 1, 0, none⟩) d.length d ((w.alloc (.cells (a.map (Value.int .i64)).toArray 2)).alloc (.cells (d.map (Value.int .i64)).toArray 2)) (Rb (rdlit w a ha) (Ba _ _)) h2
  refine C.mono fun e w' ⟨A, c, x, b, y⟩ => ⟨A, c, ?_, ?_, Bt (Bt (Ba w _) (Ba _ _)) y⟩
  · rw [x, hk, hv]
  · rw [← hk]; exact b
/-- A list against a literal. -/
theorem same_lit (A : Option Addr) (c : Nat) (l : List Int) (w : World) (h : RdI w w.heap.size A c l) (hn : l.length ≤ 1000) :
    Calls Try.prog 10 #[.slice A l.length c, .slice (some ⟨w.heap.size, 0, none⟩) l.length l.length] (w.alloc (.cells (l.map (Value.int .i64)).toArray 2)) fun e w' => e = .returned (.bool true) ∧ Below w.heap.size w w' := by
  have C := same_any A c l (some ⟨w.heap.size, 0, none⟩) l.length l (w.alloc (.cells (l.map (Value.int .i64)).toArray 2)) (Rb h (Ba _ _)) (rdlit w l hn)
  exact C.mono fun e w' ⟨a, b⟩ => ⟨by rw [a, decide_eq_true rfl], Bt (Ba w _) b⟩

set_option maxHeartbeats 1000000 in
theorem goes_any (w : World) : Calls Try.prog 11 #[] w fun e w' => e = .returned (.bool true) ∧ Below w.heap.size w w' := by
  have C1 := Lib.hid (fun W => split_lit 10 [1, 1, 1] _ _ gs1.1 gs1.2 (by intro x hx; simp at hx; omega) (by simp) (by omega) W)
  have C2 := Lib.hid (fun W => pror_lit 3 [10, 11] [1, 1] _ _ gs2.1 gs2.2 (by simp) (by simp) W)
  have S1 := Lib.hid (fun A c W h => same_lit A c [4, 3, 3] W h (by simp))
  have S2 := Lib.hid (fun A c W h => same_lit A c [3, 4] W h (by simp))
  go_enter Try.func11, Try.ntmps11
  go_wp2_with fail
  refine (C1.out _).mono ?_
  rintro e w1 ⟨A1, c1, rfl, hr, hb⟩
  have R1 := Lib.hid hr
  have B1 := Lib.hid hb
  clear hr hb
  go_wp2_with fail
  refine (C2.out _).mono ?_
  rintro e w2 ⟨A2, c2, rfl, hr, hb⟩
  have R2 := Lib.hid hr
  have R1b := Lib.hid (Rb R1.out hb)
  have B2 := Lib.hid (Bt B1.out hb)
  clear hr hb R1 B1
  go_wp2_with fail
  refine (S1.out A1 c1 _ R1b.out).mono ?_
  rintro e w3 ⟨rfl, hb⟩
  have R2b := Lib.hid (Rb R2.out hb)
  have B3 := Lib.hid (Bt B2.out hb)
  clear hb R1b R2 B2
  go_wp2_with fail
  refine (S2.out A2 c2 _ R2b.out).mono ?_
  rintro e w4 ⟨rfl, hb⟩
  have B4 := Lib.hid (Bt B3.out hb)
  clear hb
  go_wp2_with fail
  go_ret
  exact ⟨rfl, B4.out⟩
end Go.Proofs.Ytbiofjddclbncaa.Sr
