import Derived.Test.YtnaoodaadeimbaaPn9
import Derived.Test.YtnaoodaadeimbaaPn4
namespace Go.Proofs.Ytnaoodaadeimbaa.Pl
set_option linter.unusedVariables false
set_option linter.unusedSimpArgs false
open Go.RowKit Mem Ti Mo
theorem ity : IntTy Try.prog 56 2 := ⟨Try.underlying56, Try.underlying2, by
  have h : (Try.prog.info? 2).map (fun i => (i.zero, i.size, i.bytes)) = some (some (.int .i64 0), 1, 8) := by kernel_rfl
  exact info_parts h⟩
/-- The numbers of tiers. -/
def tiL (u p : Nat → Int) : Nat → List Int
  | 0 => []
  | k + 1 => tiL u p k ++ [u k, p k]
theorem tiL_len (u p : Nat → Int) (k : Nat) : (tiL u p k).length = 2 * k := by
  induction k with
  | zero => rfl
  | succ k ih => show (tiL u p k ++ [u k, p k]).length = _; rw [List.length_append, ih]; simp; omega
theorem tiL_un (u p : Nat → Int) (k : Nat) : (tiL u p k).map un = tn u p k := by
  induction k with
  | zero => rfl
  | succ k ih => show (tiL u p k ++ [u k, p k]).map un = tn u p k ++ [un (u k), un (p k)]; rw [List.map_append, ih]; rfl
/-- All numbers of a plan. -/
def LI (P : Pln) : List Int := [P.i, P.dy, P.mo, P.ov, P.ro, P.ba, (P.n : Int)] ++ tiL P.u P.p P.n
theorem LI_len (P : Pln) : (LI P).length = 7 + 2 * P.n := by unfold LI; rw [List.length_append, tiL_len]; rfl
theorem LI_un (P : Pln) (h : P.n ≤ 1000) : (LI P).map un = nums P := by
  unfold LI nums
  rw [List.map_append, tiL_un]
  show [un P.i, un P.dy, un P.mo, un P.ov, un P.ro, un P.ba, un (P.n : Int)] ++ _ = _
  rw [show un (P.n : Int) = P.n by unfold un; omega]
theorem nb_take (l : List Int) (k : Nat) (hk : k < l.length) : nb ((l.take (k + 1)).map un) = nb ((l.take k).map un) ++ be 8 (un l[k]) := by
  rw [List.take_succ_eq_append_getElem hk, List.map_append, List.map_singleton, nb_app]; simp [nb]
set_option maxRecDepth 100000 in
set_option maxHeartbeats 4000000 in
theorem RPut_any (P : Pln) (A : Option Addr) (c : Nat) (w : World) (B : Nat) (hr : RdT w B A c P.u P.p P.n) (hB : B ≤ w.heap.size) (hi : 0 ≤ P.i ∧ P.i ≤ 4294967295) (hn : P.n ≤ 1000) :
    Calls Try.prog 13 #[plv P A c] w fun e w' => ∃ v, e = .returned v ∧ Mem.Own 5 w' w.heap.size v (bytes P) ∧ Below w.heap.size w w' := by
  have hun := LI_un P hn
  have hlen := LI_len P
  have hby : bytes P = nb ((LI P).map un) := by rw [hun]; rfl
  rw [hby]
  obtain ⟨i, dy, mo, ov, ro, ba, n, u, p⟩ := P
  unfold plv
  simp only at hr hi hn hlen ⊢
  have hLI : LI ⟨i, dy, mo, ov, ro, ba, n, u, p⟩ = [i, dy, mo, ov, ro, ba, (n : Int)] ++ tiL u p n := rfl
  obtain ⟨L, hL⟩ : ∃ L, LI ⟨i, dy, mo, ov, ro, ba, n, u, p⟩ = L := ⟨_, rfl⟩
  rw [hL] at hLI hlen ⊢
  have HR := Lib.hid (And.intro hr hB)
  have ki : wrap64 i = i := by unfold wrap64; omega
  have hmc : n ≤ c := hr.1
  have hbx := box7 w (.int .u32 i) (.int .i64 dy) (.int .i64 mo) (.int .i64 ov) (.int .i64 ro) (.int .i64 ba) (.slice A n c) 25
  obtain ⟨W0, hW0⟩ : ∃ W0, w.alloc (.cells #[.int .u32 i, .int .i64 dy, .int .i64 mo, .int .i64 ov, .int .i64 ro, .int .i64 ba, .slice A n c] 25) = W0 := ⟨_, rfl⟩
  have hs0 : W0.heap.size = w.heap.size + 1 := by rw [← hW0]; simp
  have hb0 : Below w.heap.size w W0 := by rw [← hW0]; exact (Below.refl _ _).alloc (Nat.le_refl _) _
  have HB0 := Lib.hid hb0
  have HO0 := Lib.hid (OwnJ.lit 2 W0 [i, dy, mo, ov, ro, ba, (n : Int)] (w.heap.size + 1) (by omega) (by unfold maxLen; simp))
  have HLI := Lib.hid (And.intro hLI hlen)
  rw [hW0] at hbx
  have HX := Lib.hid hbx.2.2.2.2.2.2
  obtain ⟨g0, g1, g2, g3, g4, g5, g6⟩ := hbx
  clear hLI hlen hL hb0 hr hun hby
  go_enter Try.func13, Try.ntmps13
  go_wp2_with fail
  clear g0 g1 g2 g3 g4 g5 g6
  go_loopw [4, 3] (fun iv v wr => ∃ (k : Nat) (A1 : Option Addr) (c1 : Nat), k ≤ n ∧ iv = .int .i64 k ∧ v = .slice A1 (7 + 2 * k) c1 ∧ Hid (OwnJ 2 wr (w.heap.size + 1) (.slice A1 (7 + 2 * k) c1) ([i, dy, mo, ov, ro, ba, (n : Int)] ++ tiL u p k)) ∧ Hid (Below w.heap.size w wr) ∧ Hid (wr.cell? ⟨w.heap.size, 6, none⟩ = some (.slice A n c) ∧ w.heap.size < wr.heap.size)) (fun iv _ _ => n - (intOf iv).toNat)
  case atStart =>
    refine ⟨0, _, _, by omega, rfl, rfl, ?_, Lib.hid (HB0.out.alloc HB0.out.size _), Lib.hid ⟨?_, by simp; omega⟩⟩
    · have := HO0.out
      rw [hs0] at this
      exact Lib.hid (by simpa [tiL] using this)
    · exact ((Below.refl W0.heap.size W0).alloc (Nat.le_refl _) _ |>.cell (p := ⟨w.heap.size, 6, none⟩) (show w.heap.size < W0.heap.size by omega)).trans HX.out
  case round =>
    obtain ⟨k, A1, c1, hk, rfl, rfl, HO, HB, HC⟩ := hrel
    have e6 := HC.out.1
    by_cases hkn : k < n
    · obtain ⟨b, o, rfl, hbB, hc⟩ := HR.out.1.2.2 (by omega)
      have hbw : b < w.heap.size := by have := HR.out.2; omega
      have t1 := (HB.out.cell (p := ⟨b, o + k * 2, none⟩) hbw).trans (hc k hkn).1
      have t2 := (HB.out.cell (p := ⟨b, o + k * 2 + 1, none⟩) hbw).trans (hc k hkn).2
      obtain ⟨x, hx⟩ := named (u k)
      obtain ⟨y, hy⟩ := named (p k)
      rw [hx] at t1
      rw [hy] at t2
      have hst : [i, dy, mo, ov, ro, ba, (n : Int)] ++ tiL u p (k + 1) = ([i, dy, mo, ov, ro, ba, (n : Int)] ++ tiL u p k) ++ [x, y] := by rw [← hx, ← hy, List.append_assoc]; rfl
      have HST := Lib.hid hst
      obtain ⟨l0, hl0⟩ : ∃ l0, [i, dy, mo, ov, ro, ba, (n : Int)] ++ tiL u p k = l0 := ⟨_, rfl⟩
      have hl0n : l0.length ≤ 17592186044416 - 2 := by rw [← hl0, List.length_append, tiL_len]; simp; omega
      rw [hl0] at HO HST
      have HOA : Hid (OwnJ 2 (wr.alloc (.cells #[.int .i64 x, .int .i64 y] 2)) (w.heap.size + 1) (.slice A1 (7 + 2 * k) c1) l0) := Lib.hid (HO.out.below ((Below.refl wr.heap.size wr).alloc (Nat.le_refl _) _) (Nat.le_refl _))
      have HRA : Hid (RdI (wr.alloc (.cells #[.int .i64 x, .int .i64 y] 2)) (wr.heap.size + 1) (some ⟨wr.heap.size, 0, none⟩) 2 [x, y]) := Lib.hid (RdI.lit wr [x, y] 2 (by unfold maxLen; simp))
      have hN : l0.length + [x, y].length ≤ 17592186044416 := by simp; omega
      have HN := Lib.hid hN
      have hw1 := HC.out.2
      have HS := Lib.hid (show w.heap.size + 1 ≤ (wr.alloc (.cells #[.int .i64 x, .int .i64 y] 2)).heap.size by simp; omega)
      clear hc hx hy hst hl0 hl0n hN
      go_wp2_with fail
      go_region_law (refine step_append_j ity rfl (.tmp 31) (.tmp 44) rfl (w.heap.size + 1) (.slice A1 (7 + 2 * k) c1) l0 (by simp [Act.eval, Act.put]) HOA.out (wr.heap.size + 1) (some ⟨wr.heap.size, 0, none⟩) 2 2 [x, y] (by simp [Act.eval, Act.put]) rfl HRA.out HN.out HS.out ?_; intro v2 w2 ho2 hg2 hr2; have O2 := Lib.hid ho2; have G2 : Hid ((wr.alloc (.cells #[.int .i64 x, .int .i64 y] 2)).grownBy w2 (Value.slice A1 (7 + 2 * k) c1).ownBlock) := Lib.hid ⟨hg2.os, hg2.tape, hg2.output, hg2.size, hg2.block⟩; clear ho2 hg2 hr2)
      all_goals
        go_wp2_with fail
        go_roundw
        case rel =>
          have hge : ∀ q, (Value.slice A1 (7 + 2 * k) c1).ownBlock = some q → w.heap.size + 1 ≤ q := fun q hq => (World.ownsRow.lt HO.out q hq).1
          have hbA : Below w.heap.size w (wr.alloc (.cells #[.int .i64 x, .int .i64 y] 2)) := HB.out.alloc HB.out.size _
          obtain ⟨A2, c2, rfl, _⟩ := O2.out.form
          have hl2 : (l0 ++ [x, y]).length = 7 + 2 * (k + 1) := by rw [← HST.out, List.length_append, tiL_len]; simp <;> omega
          refine ⟨k + 1, A2, c2, by omega, by go_num, by rw [← hl2], Lib.hid (by rw [HST.out, ← hl2]; exact O2.out), Lib.hid (hbA.grown G2.out hbA.size (fun q hq => by have := hge q hq; omega)), Lib.hid ⟨?_, Nat.lt_of_lt_of_le (Nat.lt_of_lt_of_le HC.out.2 (by simp)) G2.out.size⟩⟩
          exact (World.cell?_of_block (a := ⟨w.heap.size, 6, none⟩) (G2.out.block w.heap.size (by simp; omega) (fun e => by have := hge w.heap.size e.symm; omega))).trans (((Below.refl wr.heap.size wr).alloc (Nat.le_refl _) _ |>.cell (p := ⟨w.heap.size, 6, none⟩) HC.out.2).trans HC.out.1)
        case measure => simp [intOf]; omega
    · obtain rfl : k = n := by omega
      obtain ⟨A3, c3, hv3, hrd, hge, _⟩ := HO.out.form
      injection hv3 with hv1 hv2 hv3
      subst hv1 hv3
      have hLL := HLI.out.1
      rw [← hLL] at hrd
      obtain ⟨m, hm⟩ : ∃ m, L.length = m := ⟨_, rfl⟩
      have hm1 : m ≤ 2007 := by have := HLI.out.2; omega
      rw [show 7 + 2 * k = m by have := HLI.out.2; omega]
      have HRD := Lib.hid hrd
      have HMM := Lib.hid hm
      clear hrd hge hLL hm hv2
      go_wp2_with fail
      clear e6
      obtain ⟨wv, hwv⟩ : ∃ wv, wr = wv := ⟨_, rfl⟩
      have h := hwv.symm
      clear hwv
      subst h
      go_loopw [6, 5] (fun iv v wq => ∃ (k : Nat) (A4 : Option Addr) (c4 : Nat), k ≤ m ∧ iv = .int .i64 k ∧ v = .slice A4 (8 * k) c4 ∧ Hid (Mem.Own 5 wq wv.heap.size (.slice A4 (8 * k) c4) (nb ((L.take k).map un))) ∧ Hid (Below wv.heap.size wv wq)) (fun iv _ _ => m - (intOf iv).toNat)
      case atStart => exact ⟨0, none, 0, by omega, rfl, rfl, Lib.hid (Own.nil _ _ _), Lib.hid (Below.refl _ _)⟩
      case round =>
        obtain ⟨k2, A4, c4, hk2, rfl, rfl, HO2, HB2⟩ := hrel
        by_cases hlt : k2 < m
        · obtain ⟨b2, o2, rfl, hb2, hc2⟩ := (HRD.out.below HB2.out).2.2.2 (by rw [HMM.out]; omega)
          have t1 := hc2 k2 (by rw [HMM.out]; exact hlt)
          have hst := nb_take L k2 (by rw [HMM.out]; exact hlt)
          obtain ⟨x, hx⟩ := named (L[k2]'(by rw [HMM.out]; exact hlt))
          rw [hx] at t1 hst
          have HST := Lib.hid hst
          have hmc2 : m ≤ c1 := by have := HRD.out.1; rw [HMM.out] at this; exact this
          clear hc2 hx hst
          go_wp2_with fail
          have hwx : 0 ≤ IntKind.u64.wrap x ∧ IntKind.u64.wrap x ≤ 18446744073709551615 := by simp [IntKind.wrap, IntKind.bits, IntKind.signed]; omega
          have hux := unsig_un x
          unfold unsig at hux
          refine (Ref.Number_any (IntKind.u64.wrap x) 8 wr hwx.1 hwx.2 (by omega)).mono ?_
          rintro e w3 ⟨v3, rfl, hown, hb3⟩
          rw [hux] at hown
          obtain ⟨A5, c5, rfl, hr5, hge5, _⟩ := hown.form
          have HR5 := Lib.hid hr5
          have HB3 := Lib.hid hb3
          have HO3 := Lib.hid (HO2.out.below hb3 (Nat.le_refl _))
          have hl4 : (nb ((L.take k2).map un)).length = 8 * k2 := by rw [nb_len, List.length_map, List.length_take, HMM.out]; omega
          have HL4 := Lib.hid hl4
          have HN := Lib.hid (show (nb ((L.take k2).map un)).length + (be 8 (un x)).length ≤ 140737488355328 by rw [hl4, length_be]; omega)
          have HS := Lib.hid (show wv.heap.size ≤ w3.heap.size from Nat.le_trans HB2.out.size hb3.size)
          clear hown hb3 hr5 hge5 hwx hux hl4 t1
          go_wp2_with (at_builtin; refine wpList_append_rd byteTy rfl _ _ rfl wv.heap.size _ _ rfl HO3.out w3.heap.size _ _ _ _ rfl rfl HR5.out HN.out HS.out ?_; intro v4 w4 ho4 hg4 _; obtain ⟨A6, c6, hv6, _⟩ := ho4.form; have O4 := Lib.hid ho4; have G4 := Lib.hid hg4; clear ho4 hg4)
          go_roundw
          case rel =>
            have hl6 : (nb ((L.take k2).map un) ++ be 8 (un x)).length = 8 * (k2 + 1) := by rw [List.length_append, HL4.out, length_be]; omega
            rw [hl6] at hv6
            refine ⟨k2 + 1, A6, c6, by omega, by go_num, by rw [← List.map_take, ← List.length_append, hl6], Lib.hid (by rw [← hv6, HST.out]; exact O4.out), Lib.hid ?_⟩
            exact (HB2.out.trans (HB3.out.mono HB2.out.size)).grown G4.out (Nat.le_trans HB2.out.size HB3.out.size) (fun q hq => (World.ownsRow.lt HO3.out q hq).1)
          case measure => simp [intOf]; omega
        · obtain rfl : k2 = m := by omega
          go_wp2_with fail
          go_ret
          refine ⟨_, rfl, ?_, HB.out.trans (HB2.out.mono HB.out.size)⟩
          have := HO2.out
          rw [List.take_of_length_le (by rw [HMM.out]; exact Nat.le_refl _)] at this
          exact this.mono HB.out.size
end Go.Proofs.Ytnaoodaadeimbaa.Pl
