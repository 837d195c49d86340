import Derived.Test.YtbiofjddclbncaaMo3
namespace Go.Proofs.Ytbiofjddclbncaa.Mo
set_option linter.unusedVariables false
set_option linter.unusedSimpArgs false
open Go.RowKit Mem

/-- All numbers lie within 64 bits. -/
def Nums (l : List Int) : Prop := ∀ x ∈ l, -9223372036854775808 ≤ x ∧ x ≤ 9223372036854775807
theorem Nums.at {l : List Int} (h : Nums l) {k : Nat} (hk : k < l.length) : -9223372036854775808 ≤ l[k] ∧ l[k] ≤ 9223372036854775807 := h _ (List.getElem_mem hk)
theorem Nums.sum {l : List Int} (h : Nums l) : -9223372036854775808 * (l.length : Int) ≤ l.sum ∧ l.sum ≤ 9223372036854775807 * (l.length : Int) := by
  induction l with
  | nil => simp
  | cons x l ih =>
    have a := h x (by simp)
    have b := ih fun y hy => h y (by simp [hy])
    simp only [List.sum_cons, List.length_cons, Int.natCast_add, Int.mul_add]
    omega
theorem sum_next (l : List Int) {k : Nat} (hk : k < l.length) : (l.take (k + 1)).sum = (l.take k).sum + l[k] := by
  rw [List.take_succ_eq_append_getElem hk, List.sum_append]; simp


set_option maxHeartbeats 1000000 in
theorem Sum_any (A : Option Addr) (c : Nat) (l : List Int) (w : World) (B : Nat) (hr : RdI w B A c l) (hB : B ≤ w.heap.size) (hl : Nums l) (hn : l.length ≤ 4611686018427387904) :
    Calls Try.prog 14 #[.slice A l.length c] w fun e w' => e = .returned (.tuple #[.int .i64 (na l.sum), .int .i64 (ne l.sum)]) ∧ Below w.heap.size w w' := by
  have hS := hl.sum
  have C2 := Lib.hid (fun W => narrow_any l.sum W (by omega) (by omega))
  have C1 := Lib.hid (fun V k (hk : k < l.length) W => plus_any V l[k] W (hl.at hk).1 (hl.at hk).2)
  have HR := Lib.hid hr
  have HB := Lib.hid hB
  obtain ⟨n, hnl⟩ := named l.length
  have HN := Lib.hid hnl
  rw [hnl] at hn ⊢
  clear hS hl hr hB hnl
  have HV := Lib.hid (VN.new w #[.int .u64 0, .int .u64 0] 50)
  go_enter Try.func14, Try.ntmps14
  go_wp2_with fail
  go_loopw [9] (fun v wr => ∃ k : Nat, k ≤ n ∧ v = .int .i64 k ∧ Hid (VN wr w.heap.size [.int .u64 ((l.take k).sum % 340282366920938463463374607431768211456 / 18446744073709551616), .int .u64 ((l.take k).sum % 18446744073709551616)] ∧ Below w.heap.size w wr)) (fun v _ => n - (intOf v).toNat)
  · exact ⟨0, by omega, rfl, Lib.hid ⟨HV.out, (Below.refl _ _).alloc (Nat.le_refl _) _⟩⟩
  · obtain ⟨k, hk, rfl, hX⟩ := hrel
    by_cases hkn : k < n
    · obtain ⟨b, o, rfl, hb, hc⟩ := HR.out.2.2.2 (by have := HN.out; omega)
      obtain ⟨V, hV⟩ := named (l.take k).sum
      have HV1 := Lib.hid hV
      obtain ⟨hi, hhi⟩ := named (V % 340282366920938463463374607431768211456 / 18446744073709551616)
      obtain ⟨lo, hlo⟩ := named (V % 18446744073709551616)
      have hX1 := hX.out.1
      have hX2 := Lib.hid hX.out.2
      rw [hV, hhi, hlo] at hX1
      have HX := Lib.hid hX1
      have hkl : k < l.length := by rw [HN.out]; exact hkn
      have c := C1.out V k hkl
      unfold wd at c
      rw [hhi, hlo] at c
      obtain ⟨x, hx⟩ := named l[k]
      have e1 : wr.cell? ⟨b, o + k, none⟩ = some (.int .i64 x) := by rw [← hx, ← hc k hkl]; exact hX2.out.cell (p := ⟨b, o + k, none⟩) (by have := HB.out; show b < _; omega)
      rw [hx] at c
      have C := Lib.hid c
      have HXx := Lib.hid hx
      have c0 := HX.out.c 0 _ rfl
      have c1 := HX.out.c 1 _ rfl
      clear hc hb hhi hlo hV hX hX1 c hx
      have hs := HX.out.lt
      go_wp2_with fail
      refine (C.out wr).mono ?_
      rintro e w1 ⟨rfl, hb⟩
      have hw1 := HX.out.bel hb
      have HY := Lib.hid hw1
      have HB1 := Lib.hid (hX2.out.trans (hb.mono hX2.out.size))
      obtain ⟨hi2, hhi2⟩ := named ((V + x) % 340282366920938463463374607431768211456 / 18446744073709551616)
      obtain ⟨lo2, hlo2⟩ := named ((V + x) % 18446744073709551616)
      rw [hhi2, hlo2]
      have HH := Lib.hid (And.intro hhi2 hlo2)
      have d0 := HY.out.c 0 _ rfl
      have d1 := HY.out.c 1 _ rfl
      have z0 := HY.out.z 0
      have z1 := HY.out.z 1
      clear hb hw1 hhi2 hlo2 c0 c1 hs
      have hs := HY.out.lt
      go_wp2_with fail
      go_roundw
      case rel =>
        refine ⟨k + 1, by omega, by go_num, Lib.hid ⟨?_, ?_⟩⟩
        · rw [sum_next l hkl, HV1.out, HXx.out, HH.out.1, HH.out.2]
          exact (HY.out.set 0 (by simp) _).set 1 (by simp) _
        · exact bel_set (bel_set HB1.out (Nat.le_refl _) _) (Nat.le_refl _) _
      case measure => simp [intOf]; omega
    · obtain rfl : k = n := by omega
      have hX1 := hX.out.1
      rw [← HN.out, List.take_length] at hX1
      have C := C2.out
      unfold wd at C
      obtain ⟨hi, hhi⟩ := named (l.sum % 340282366920938463463374607431768211456 / 18446744073709551616)
      obtain ⟨lo, hlo⟩ := named (l.sum % 18446744073709551616)
      rw [hhi, hlo] at hX1 C
      have HC := Lib.hid C
      have HX2 := Lib.hid hX.out.2
      have HX := Lib.hid hX1
      have c0 := HX.out.c 0 _ rfl
      have c1 := HX.out.c 1 _ rfl
      clear hX hX1 hhi hlo C hkn
      have hs := HX.out.lt
      go_wp2_with fail
      refine (HC.out wr).mono ?_
      rintro e w1 ⟨rfl, hb⟩
      have HB1 := Lib.hid (HX2.out.trans (hb.mono HX2.out.size))
      clear hb
      go_wp2_with fail
      go_ret2
      exact ⟨rfl, HB1.out⟩

end Go.Proofs.Ytbiofjddclbncaa.Mo
