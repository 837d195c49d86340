import Derived.Test.YtcjokkjepgfinaaGreatDoorJO
import Derived.Test.YtcjokkjepgfinaaGreatDoorJN
import Derived.WalkLawsBesides
namespace Go.Proofs.YtcjokkjepgfinaaGreatDoor.Tr
set_option maxRecDepth 8000
set_option linter.unusedVariables false
set_option linter.unusedSimpArgs false
open Go.RowKit Mem Sk
open Dk (Fr ptr newD newY)
theorem inS_keyB (f : By) (lg t : Nat) (x : By) : inS f (keyB lg t) x = (!blt x f && blt x (keyB lg t)) := by
  unfold inS ends
  have : (keyB lg t).isEmpty = false := by
    have := keyB_len lg t
    cases h : keyB lg t with
    | nil => rw [h] at this; simp at this
    | cons a b => rfl
  rw [this, Bool.false_or]
theorem filter_take_at (L : List It) (p : It → Bool) {i : Nat} (hi : i < L.length) (hp : p L[i] = true) : (L.filter p)[((L.take i).filter p).length]? = some L[i] := by
  have e : L = L.take i ++ L[i] :: L.drop (i + 1) := by rw [List.getElem_cons_drop, List.take_append_drop]
  have e2 : L.filter p = (L.take i).filter p ++ L[i] :: (L.drop (i + 1)).filter p := by
    conv => lhs; rw [e]
    rw [List.filter_append, List.filter_cons, if_pos hp]
  rw [e2, List.getElem?_append_right (Nat.le_refl _), Nat.sub_self]; rfl
theorem filter_take_succ (L : List It) (p : It → Bool) {i : Nat} (hi : i < L.length) : ((L.take (i + 1)).filter p).length = ((L.take i).filter p).length + if p L[i] then 1 else 0 := by
  rw [List.take_succ_eq_append_getElem hi, List.filter_append, List.length_append]
  congr 1
  rw [List.filter_cons]
  split <;> rfl
def kys (lg : Nat) (l : List Int) : List By := l.map fun x => keyB lg x.toNat
theorem kys_len (lg : Nat) (l : List Int) : (kys lg l).length = l.length := by simp [kys]
theorem kys_at (lg : Nat) (l : List Int) {i : Nat} (hi : i < l.length) : (kys lg l)[i]'(by rw [kys_len]; exact hi) = keyB lg l[i].toNat := by simp [kys]
theorem puts_next (ks : List By) {i : Nat} (hi : i < ks.length) : puts (ks.take (i + 1)) = putK (puts (ks.take i)) ks[i] [1] := by
  rw [List.take_succ_eq_append_getElem hi, puts_snoc]
theorem puts_le (ks : List By) (i : Nat) : (puts (ks.take i)).length ≤ ks.length := by
  have h := (puts_all (ks.take i) _ rfl).2.2.1
  rw [List.length_take] at h; omega
set_option maxHeartbeats 4000000 in
theorem treeOrder_walk (A : Option Addr) (len c : Nat) (l : List Int) (hl : l.length = len) (fr tu lg : Int) (w : World) (hT : Tab w) (hr : RdU w w.heap.size A c l ∧ ∀ x ∈ l, 0 ≤ x ∧ x ≤ 65535) (h1 : (Lit.int .u16 fr).wf = true) (h2 : (Lit.int .u16 tu).wf = true) (h3 : (Lit.int .u8 lg).wf = true) :
    Calls Tryz.prog 5 #[.slice A len c, .int .u16 fr, .int .u16 tu, .int .u8 lg] w fun e w' => e = .returned (.bool true) ∧ Below w.heap.size w w' := by
  have h1' : 0 ≤ fr ∧ fr ≤ 65535 := by simpa [Lit.wf, IntKind.min, IntKind.max, IntKind.bits, IntKind.signed] using h1
  have h2' : 0 ≤ tu ∧ tu ≤ 65535 := by simpa [Lit.wf, IntKind.min, IntKind.max, IntKind.bits, IntKind.signed] using h2
  have h3' : 0 ≤ lg ∧ lg ≤ 255 := by simpa [Lit.wf, IntKind.min, IntKind.max, IntKind.bits, IntKind.signed] using h3
  obtain ⟨fr, rfl⟩ := Int.eq_ofNat_of_zero_le h1'.1
  obtain ⟨tu, rfl⟩ := Int.eq_ofNat_of_zero_le h2'.1
  obtain ⟨lg, rfl⟩ := Int.eq_ofNat_of_zero_le h3'.1
  have HF := Lib.hid (show fr < 65536 by omega)
  have HU := Lib.hid (show tu < 65536 by omega)
  have HG := Lib.hid (show lg < 256 by omega)
  have HR := Lib.hid hr.1
  have HN := Lib.hid hr.2
  have HL := Lib.hid hl
  have HT := Lib.hid hT
  have hcap : len ≤ c := by have := hr.1.1; omega
  have hcm : c ≤ 9223372036854775807 := by have := hr.1.2.1; unfold maxLen at this; omega
  clear h1 h2 h3 h1' h2' h3' hr hl hT
  go_enter Tryz.func5, Tryz.ntmps5
  go_wp2_with fail
  refine (made6_any 400 w HT.out (by omega) (by omega)).mono ?_
  rintro e w1 ⟨sb, db, y, yd, rfl, b1⟩
  have B1 := Lib.hid b1
  clear b1
  go_wp2_with fail
  refine (made6_any 400 w1 B1.out.tab (by omega) (by omega)).mono ?_
  rintro e w2 ⟨tb, tdb, z, zd, rfl, b2⟩
  have D0 := Lib.hid (Duo.new B1.out b2)
  clear b2 B1
  by_cases h100 : 100 < len
  · have z1 : (100 < (len : Int)) = True := by simp; omega
    clear h100
    go_wp2_with fail
    go_ret
    exact ⟨rfl, D0.out.bel⟩
  have z1 : (100 < (len : Int)) = False := by simp; omega
  have hl100 : len ≤ 100 := by omega
  clear h100
  go_wp2_with fail
  go_loopw [11] (fun v wr => ∃ i : Nat, i ≤ len ∧ v = .int .i64 i ∧ Hid (Duo w.heap.size w wr sb db yd tb tdb zd (puts ((kys lg l).take i)) (puts ((kys lg l).reverse.take i)) (6000 * i))) (fun v _ => len - (intOf v).toNat)
  · exact ⟨0, by omega, rfl, D0⟩
  · obtain ⟨i, hi, rfl, HD⟩ := hrel
    by_cases hin : i < len
    · obtain ⟨b, o, rfl, hb, hc⟩ := HR.out.2.2 (by rw [HL.out]; omega)
      obtain ⟨k, hk⟩ : ∃ k, k + i + 1 = len := ⟨len - 1 - i, by omega⟩
      have hil : i < l.length := by rw [HL.out]; exact hin
      have hkl : k < l.length := by rw [HL.out]; omega
      have bx := HN.out _ (List.getElem_mem hil)
      have bz := HN.out _ (List.getElem_mem hkl)
      obtain ⟨x, hx⟩ : ∃ x : Nat, l[i] = (x : Int) := ⟨l[i].toNat, by omega⟩
      obtain ⟨q, hq⟩ : ∃ q : Nat, l[k] = (q : Int) := ⟨l[k].toNat, by omega⟩
      have e1 := (HD.out.bel.cell (p := ⟨b, o + i, none⟩) (by have := HD.out.base; exact hb)).trans (hc i hil)
      have HC := Lib.hid (fun W (h : Below w.heap.size w W) => (show W.cell? ⟨b, o + k, none⟩ = some (.int .u16 (q : Int)) from (h.cell (p := ⟨b, o + k, none⟩) hb).trans (by rw [hc k hkl, hq])))
      rw [hx] at e1
      have hx2 := Lib.hid (show x < 65536 by omega)
      have hq2 := Lib.hid (show q < 65536 by omega)
      have i1 : IntKind.i64.wrap ((len : Int) - 1) = (len : Int) - 1 := by rw [IntKind.wrap_i64]; omega
      have i2 : IntKind.i64.wrap ((len : Int) - 1 - (i : Int)) = (k : Int) := by rw [IntKind.wrap_i64]; omega
      have hkn : k < len := by omega
      have E1 := Lib.hid (show puts ((kys lg l).take (i + 1)) = putK (puts ((kys lg l).take i)) (keyB lg x) [1] by
        rw [puts_next _ (by rw [kys_len]; exact hil), kys_at lg l hil, hx]; rfl)
      have E2 := Lib.hid (show puts ((kys lg l).reverse.take (i + 1)) = putK (puts ((kys lg l).reverse.take i)) (keyB lg q) [1] by
        have hh : i < (kys lg l).reverse.length := by rw [List.length_reverse, kys_len]; exact hil
        rw [puts_next _ hh, List.getElem_reverse]
        have e : (kys lg l).length - 1 - i = k := by rw [kys_len, HL.out]; omega
        simp only [e]
        rw [kys_at lg l hkl, hq]; rfl)
      have L1 := Lib.hid (show (puts ((kys lg l).take i)).length ≤ 120 by have := puts_le (kys lg l) i; rw [kys_len, HL.out] at this; omega)
      have L2 := Lib.hid (show (puts ((kys lg l).reverse.take i)).length ≤ 120 by have := puts_le (kys lg l).reverse i; rw [List.length_reverse, kys_len, HL.out] at this; omega)
      have HK := Lib.hid hk
      clear hc bx bz hx hq hil hkl hk hb
      go_wp2_with fail
      refine (keyF_any x lg wr hx2.out HG.out).mono ?_
      rintro e w3 ⟨A3, c3, rfl, k3, b3⟩
      have K3 := Lib.hid k3
      have B3 := Lib.hid b3
      clear k3 b3
      go_wp2_with fail
      refine (HD.out.put1 B3.out K3.out (by omega) L1.out).mono ?_
      rintro e w4 ⟨rfl, d4⟩
      have D4 := Lib.hid d4
      clear d4
      have e2 := HC.out w4 D4.out.bel
      go_wp2_with fail
      refine (keyF_any q lg w4 hq2.out HG.out).mono ?_
      rintro e w5 ⟨A5, c5, rfl, k5, b5⟩
      have K5 := Lib.hid k5
      have B5 := Lib.hid b5
      clear k5 b5
      go_wp2_with fail
      refine (D4.out.swap.put1 B5.out K5.out (by omega) L2.out).mono ?_
      rintro e w6 ⟨rfl, d6⟩
      have D6 := Lib.hid d6
      clear d6
      go_wp2_with fail
      go_roundw
      case rel =>
        refine ⟨i + 1, by omega, by go_num, Lib.hid ?_⟩
        rw [E1.out, E2.out, show 6000 * (i + 1) = 6000 * i + 3000 + 3000 by omega]
        exact D6.out.swap
      case measure => simp [intOf]; omega
    · obtain rfl : i = len := by omega
      have e1 : (kys lg l).take i = kys lg l := List.take_of_length_le (by rw [kys_len, HL.out]; omega)
      have e2 : (kys lg l).reverse.take i = (kys lg l).reverse := List.take_of_length_le (by rw [List.length_reverse, kys_len, HL.out]; omega)
      have d := HD.out
      rw [e1, e2, puts_reverse] at d
      have hLn : (puts (kys lg l)).length ≤ 100 := by have := (puts_all (kys lg l) _ rfl).2.2.1; rw [kys_len, HL.out] at this; omega
      obtain ⟨L, hL⟩ : ∃ L, puts (kys lg l) = L := ⟨_, rfl⟩
      rw [hL] at d hLn
      have D1 := Lib.hid d
      have hLL := Lib.hid (show L.length ≤ 120 by omega)
      clear d e1 e2 HD D0 hL
      go_wp2_with fail
      refine (D1.out.RangeAll hLL.out).mono ?_
      rintro e w3 ⟨Aa, ca, rfl, pa, b3⟩
      have D3 := Lib.hid (D1.out.keep b3)
      have PA3 := Lib.hid pa
      clear pa b3
      go_wp2_with fail
      refine (D3.out.swap.RangeAll hLL.out).mono ?_
      rintro e w4 ⟨Ab, cb, rfl, pb, b4⟩
      have D4 := Lib.hid (D3.out.keep b4)
      have PA4 := Lib.hid (PA3.out.below b4)
      have PB4 := Lib.hid pb
      clear pb b4 PA3
      go_wp2_with fail
      refine (keyF_any fr lg w4 HF.out HG.out).mono ?_
      rintro e w5 ⟨A5, c5, rfl, k5, b5⟩
      have K5 := Lib.hid k5
      have D5 := Lib.hid (D4.out.keep b5)
      have PA5 := Lib.hid (PA4.out.below b5)
      have PB5 := Lib.hid (PB4.out.below b5)
      clear k5 b5 PA4 PB4
      go_wp2_with fail
      refine (keyF_any tu lg w5 HU.out HG.out).mono ?_
      rintro e w6 ⟨A6, c6, rfl, k6, b6⟩
      have K6 := Lib.hid (k6.mono (G := fun _ => False) (fun _ h => h.elim))
      have K5' := Lib.hid ((K5.out.bel b6).mono (G := fun _ => False) (fun _ h => h.elim))
      have D6 := Lib.hid (D5.out.keep b6)
      have PA6 := Lib.hid (PA5.out.below b6)
      have PB6 := Lib.hid (PB5.out.below b6)
      clear k6 b6 PA5 PB5 K5
      go_wp2_with fail
      refine (Duo.Range (fr := keyB lg fr) (tu := keyB lg tu) D6.out K5'.out K6.out hLL.out).mono ?_
      rintro e w7 ⟨Ac, cc, rfl, pc, b7⟩
      have D7 := Lib.hid (D6.out.keep b7)
      have PA7 := Lib.hid (PA6.out.below b7)
      have PB7 := Lib.hid (PB6.out.below b7)
      have PC7 := Lib.hid pc
      clear pc b7 PA6 PB6 K5' K6 D1 D3 D4 D5 D6
      obtain ⟨p, hp⟩ : ∃ p : It → Bool, (fun x : It => inS (keyB lg fr) (keyB lg tu) x.1) = p := ⟨_, rfl⟩
      rw [hp] at PC7
      rw [hp]
      have HP := Lib.hid (fun x : It => (congrFun hp x).symm.trans (inS_keyB (keyB lg fr) lg tu x.1))
      obtain ⟨C, hC⟩ : ∃ C, L.filter p = C := ⟨_, rfl⟩
      rw [hC] at PC7
      rw [hC]
      have HCC := Lib.hid hC
      obtain ⟨nL, hnL⟩ : ∃ n, L.length = n := ⟨_, rfl⟩
      obtain ⟨nC, hnC⟩ : ∃ n, C.length = n := ⟨_, rfl⟩
      rw [hnL, hnC]
      have HNL := Lib.hid hnL
      have HNC := Lib.hid hnC
      rw [hnL] at hLn
      clear hp hC hnL hnC
      go_wp2_with fail
      go_loopw [19, 20] (fun v19 v wr => ∃ i : Nat, i ≤ nL ∧ v = .int .i64 i ∧ v19 = .int .i64 ((((L.take i).filter p).length : Nat) : Int) ∧ Hid (Below w7.heap.size w7 wr)) (fun _ v _ => nL - (intOf v).toNat)
      · exact ⟨0, by omega, rfl, rfl, Lib.hid (Below.refl _ _)⟩
      · obtain ⟨i, hi, rfl, rfl, HX⟩ := hrel
        by_cases hin : i < nL
        · have hiL : i < L.length := by rw [HNL.out]; exact hin
          have PAr := PA7.out.below HX.out
          have PBr := PB7.out.below HX.out
          obtain ⟨ba, oa, rfl, hba, hca⟩ := PAr.2.2 (by omega)
          obtain ⟨bb, ob, rfl, hbb, hcb⟩ := PBr.2.2 (by omega)
          obtain ⟨A8, c8, g8, r8⟩ := hca i hiL
          obtain ⟨A9, c9, g9, r9⟩ := hcb i hiL
          have HPi := HP.out L[i]
          have HAT := filter_take_at L p hiL
          have HSU := filter_take_succ L p hiL
          obtain ⟨X, hX⟩ : ∃ X, L[i].1 = X := ⟨_, rfl⟩
          obtain ⟨n, hn⟩ : ∃ n, ((L.take i).filter p).length = n := ⟨_, rfl⟩
          obtain ⟨pv, hpv⟩ : ∃ pv, p L[i] = pv := ⟨_, rfl⟩
          rw [hX] at g8 g9 r8 r9 HPi
          rw [hn] at HAT HSU ⊢
          rw [hpv] at HAT HSU HPi
          have kx := run_str_rd wr r8
          have ky := run_str_rd wr r9
          have hxl : (str X).toList = X := str_toList _
          have hfl : (str (keyB lg fr)).toList = keyB lg fr := str_toList _
          have htl : (str (keyB lg tu)).toList = keyB lg tu := str_toList _
          have hii : (i : Int) < (nL : Int) := by omega
          have HSU2 := Lib.hid HSU
          have HXX := Lib.hid hX
          have hn20 : n ≤ 120 := by
            have := hLL.out
            have a := List.length_filter_le p (L.take i)
            rw [hn, List.length_take] at a; omega
          by_cases d1 : blt X (keyB lg fr) = true
          · have d1' : Op.bytesLess X (keyB lg fr) = true := d1
            have hpf := Lib.hid (show pv = false by rw [HPi, d1]; rfl)
            clear hca hcb r8 r9 HPi HAT HSU hX hpv HXX hn hba hbb PAr PBr hiL d1
            go_wp2_with fail
            refine (keyF_any fr lg wr HF.out HG.out).mono ?_
            rintro e wa ⟨Ad, cd, rfl, ka, ba'⟩
            have kz := run_str_rd wa ka.rdd
            have HXa := Lib.hid (HX.out.trans (ba'.mono HX.out.size))
            clear ka ba'
            go_wp2_with fail
            go_roundw
            case rel => exact ⟨i + 1, by omega, by go_num, by rw [HSU2.out, hpf.out]; rfl, HXa⟩
            case measure => simp [intOf]; omega
          · have d1' : Op.bytesLess X (keyB lg fr) = false := by simpa using d1
            by_cases d2 : blt X (keyB lg tu) = true
            · have d2' : Op.bytesLess X (keyB lg tu) = true := d2
              have hpt : pv = true := by rw [HPi, d2, show blt X (keyB lg fr) = false from d1']; rfl
              have hat := HAT hpt
              rw [HCC.out] at hat
              obtain ⟨hnC, hCn⟩ := List.getElem?_eq_some_iff.1 hat
              have hnC2 : n < nC := by rw [← HNC.out]; exact hnC
              have hpf := Lib.hid hpt
              obtain ⟨bc, oc, rfl, hbc, hcc⟩ := PC7.out.2.2 (by omega)
              have HCC2 := Lib.hid (fun W (h : Below w7.heap.size w7 W) => (show ∃ A' c', W.cell? ⟨bc, oc + n * 2, none⟩ = some (.slice A' X.length c') ∧ Rd W w7.heap.size A' c' X by
                obtain ⟨A', c', h1, h2⟩ := hcc n hnC
                rw [hCn, HXX.out] at h1 h2
                exact ⟨A', c', (h.cell (p := ⟨bc, oc + n * 2, none⟩) hbc).trans h1, h2.below h⟩))
              have hni : (n : Int) < (nC : Int) := by omega
              clear hca hcb r8 r9 HPi HAT HSU hX hpv HXX hn hba hbb PAr PBr hiL d1 d2 hpt hat hCn hnC hcc hbc
              go_wp2_with fail
              refine (keyF_any fr lg wr HF.out HG.out).mono ?_
              rintro e wa ⟨Ad, cd, rfl, ka, ba'⟩
              have kz := run_str_rd wa ka.rdd
              have HXa := Lib.hid (HX.out.trans (ba'.mono HX.out.size))
              clear ka ba'
              go_wp2_with fail
              refine (keyF_any tu lg wa HU.out HG.out).mono ?_
              rintro e wb ⟨Ae, ce, rfl, ka, ba'⟩
              have kw := run_str_rd wb ka.rdd
              have HXb := Lib.hid (HXa.out.trans (ba'.mono HXa.out.size))
              clear ka ba'
              obtain ⟨Af, cf, gf, rf⟩ := HCC2.out wb HXb.out
              have kv := run_str_rd wb rf
              clear rf
              go_wp2_with fail
              go_roundw
              case rel => exact ⟨i + 1, by omega, by go_num, by rw [HSU2.out, hpf.out]; go_num, HXb⟩
              case measure => simp [intOf]; omega
            · have d2' : Op.bytesLess X (keyB lg tu) = false := by simpa using d2
              have hpf := Lib.hid (show pv = false by rw [HPi, show blt X (keyB lg tu) = false from d2']; simp)
              clear hca hcb r8 r9 HPi HAT HSU hX hpv HXX hn hba hbb PAr PBr hiL d1 d2
              go_wp2_with fail
              refine (keyF_any fr lg wr HF.out HG.out).mono ?_
              rintro e wa ⟨Ad, cd, rfl, ka, ba'⟩
              have kz := run_str_rd wa ka.rdd
              have HXa := Lib.hid (HX.out.trans (ba'.mono HX.out.size))
              clear ka ba'
              go_wp2_with fail
              refine (keyF_any tu lg wa HU.out HG.out).mono ?_
              rintro e wb ⟨Ae, ce, rfl, ka, ba'⟩
              have kw := run_str_rd wb ka.rdd
              have HXb := Lib.hid (HXa.out.trans (ba'.mono HXa.out.size))
              clear ka ba'
              go_wp2_with fail
              go_roundw
              case rel => exact ⟨i + 1, by omega, by go_num, by rw [HSU2.out, hpf.out]; rfl, HXb⟩
              case measure => simp [intOf]; omega
        · obtain rfl : i = nL := by omega
          have e1 : L.take i = L := List.take_of_length_le (by rw [HNL.out]; omega)
          rw [e1, HCC.out, HNC.out]
          have DX := Lib.hid (D7.out.keep HX.out)
          clear e1
          go_wp2_with fail
          refine (goes6_any wr DX.out.tab).mono ?_
          rintro e w9 ⟨rfl, b9⟩
          have D9 := Lib.hid (DX.out.keep b9)
          clear b9
          go_wp2_with fail
          go_ret
          exact ⟨rfl, D9.out.bel⟩
end Go.Proofs.YtcjokkjepgfinaaGreatDoor.Tr
