import Derived.Test.YthaleikmdoijbaaTA1
import Derived.Test.YthaleikmdoijbaaMr4
import Derived.Deep.RegionWith
namespace Go.Proofs.Ythaleikmdoijbaa.Ti
set_option linter.unusedVariables false
set_option linter.unusedSimpArgs false
set_option maxRecDepth 8000
open Go.RowKit Mem Mo
theorem Ok.cst_hi {u p : Nat → Int} {m : Nat} (h : Ok u p m) {n : Int} (hn : 0 ≤ n) : ∀ k, k ≤ m → cst n u p k ≤ 1125899906842624 * ahd n u k := by
  intro k
  induction k with
  | zero => intro _; rw [ahd_zero]; show (0 : Int) ≤ _; omega
  | succ k ih =>
    intro hk
    have a := ih (by omega)
    have b := h.spn_bd hn (k := k) (by omega)
    have c := h.prc k (by omega)
    have d : p k * spn n u k ≤ 1125899906842624 * spn n u k := Int.mul_le_mul_of_nonneg_right c.2 b.1
    have e : ahd n u (k + 1) = ahd n u k + spn n u k := by rw [ahd_succ]; unfold spn; omega
    show cst n u p k + p k * spn n u k ≤ _
    rw [e, Int.mul_add]; omega
set_option maxHeartbeats 1000000 in
theorem RPrice_no (A : Option Addr) (c m : Nat) (u p : Nat → Int) (n : Int) (w : World) (B : Nat) (hr : RdT w B A c u p m) (hB : B ≤ w.heap.size) (h : okB u p m = false ∨ (okB u p m = true ∧ n < 0)) :
    Calls Try.prog 9 #[.slice A m c, .int .i64 n] w fun e w' => e = .returned (.tuple #[.int .i64 0, .int .i64 1]) ∧ Below w.heap.size w w' := by
  have C := Lib.hid (RCheck_any A c m u p w B hr hB)
  clear hr hB
  rcases h with h | ⟨h, hn⟩
  · rw [h] at C
    clear h
    go_enter Try.func9, Try.ntmps9
    go_wp2_with fail
    refine C.out.mono ?_
    rintro e w1 ⟨rfl, hb⟩
    have B1 := Lib.hid hb; clear hb
    go_wp2_with fail
    go_ret2
    exact ⟨rfl, B1.out⟩
  · rw [h] at C
    have z1 : (n < 0) = True := by simp [hn]
    clear h hn
    go_enter Try.func9, Try.ntmps9
    go_wp2_with fail
    refine C.out.mono ?_
    rintro e w1 ⟨rfl, hb⟩
    have B1 := Lib.hid hb; clear hb
    go_wp2_with fail
    go_ret2
    exact ⟨rfl, B1.out⟩
/-- The cells of a number of the document's. -/
def bl (V : Int) : List Value := [.int .u64 (dg0 V), .int .u64 (dg1 V), .int .u64 (dg2 V), .int .u64 (dg3 V)]
set_option maxHeartbeats 4000000 in
theorem RPrice_yes (A : Option Addr) (c m : Nat) (u p : Nat → Int) (n : Int) (w : World) (B : Nat) (hr : RdT w B A c u p m) (hB : B ≤ w.heap.size) (hok : Ok u p m) (hn : 0 ≤ n) (hn1 : n ≤ 9223372036854775807) :
    Calls Try.prog 9 #[.slice A m c, .int .i64 n] w fun e w' => e = .returned (.tuple #[.int .i64 (na (cst n u p m)), .int .i64 (ne (cst n u p m))]) ∧ Below w.heap.size w w' := by
  have C := Lib.hid (RCheck_any A c m u p w B hr hB)
  rw [okB_iff.2 hok] at C
  have HR := Lib.hid (fun W (h : Below w.heap.size w W) => (hr.below (h.mono hB)).more hB)
  have HOk := Lib.hid hok
  have hm4 : m ≤ 4 := hok.m4
  have hmc : m ≤ c := hr.1
  have z1 : (n < 0) = False := by simp; omega
  have HRow := Lib.hid (fun W (h : Below w.heap.size w W) k (hk : k < m) => (hr.below (h.mono hB)).2.2 (by omega))
  obtain ⟨b, o, rfl, hbl, _⟩ := hr.2.2 hok.m1
  have HN := Lib.hid (And.intro hn hn1)
  clear hr hB hok hbl
  go_enter Try.func9, Try.ntmps9
  go_wp2_with fail
  refine C.out.mono ?_
  rintro e w1 ⟨rfl, hb⟩
  have B1 := Lib.hid hb
  have HV0 := Lib.hid (VN.new w1 #[.int .u64 0, .int .u64 0, .int .u64 0, .int .u64 0] 44)
  have B2 := Lib.hid (hb.alloc hb.size (.cells #[.int .u64 0, .int .u64 0, .int .u64 0, .int .u64 0] 44))
  clear hb C
  go_wp2_with fail
  go_loopw [7, 8] (fun v7 v wr => ∃ k : Nat, k ≤ m ∧ v = .int .i64 k ∧ v7 = .int .i64 (ahd n u k) ∧ Hid (VN wr w1.heap.size (bl (cst n u p k))) ∧ Hid (Below w.heap.size w wr)) (fun _ v _ => m - (intOf v).toNat)
  · exact ⟨0, by omega, rfl, rfl, HV0, B2⟩
  · obtain ⟨k, hk, rfl, rfl, HV, HX⟩ := hrel
    by_cases hkn : k < m ∧ ahd n u k < n
    · obtain ⟨hkm, hlt⟩ := hkn
      obtain ⟨b', o', e, _, hc⟩ := HRow.out wr HX.out k hkm
      simp at e
      obtain ⟨rfl, rfl⟩ := e
      have e1 := (hc k hkm).1
      have q1 := HOk.out.att_end hn hkm hlt
      have q2 := HOk.out.spn_bd hn hkm
      have q3 := HOk.out.prc k hkm
      have q4 := HOk.out.ahd_bd hn (k := k) (by omega)
      have q5 := HOk.out.bd hkm
      have nx : ahd n u (k + 1) = en n (u k) := ahd_succ n u k
      have cx : cst n u p (k + 1) = cst n u p k + p k * spn n u k := rfl
      have sx : spn n u k = en n (u k) - ahd n u k := rfl
      obtain ⟨x, hx⟩ := named (u k)
      obtain ⟨q, hq⟩ := named (p k)
      obtain ⟨a, ha⟩ := named (ahd n u k)
      obtain ⟨s, hs⟩ := named (spn n u k)
      obtain ⟨V, hV⟩ := named (cst n u p k)
      obtain ⟨g, hg⟩ := named (en n (u k))
      rw [hg] at q1 nx sx
      rw [hx] at hg
      rw [hx] at e1 q5
      rw [hq] at q1 q3 cx
      rw [ha] at q4 sx hlt ⊢
      rw [hs] at q2 sx cx
      rw [hV] at cx HV
      have HE := Lib.hid (And.intro nx cx)
      have hws : IntKind.i64.wrap (g - a) = s := by rw [IntKind.wrap_i64]; omega
      have hlt2 : (a < n) = True := by simp [hlt]
      have COf1 := Lib.hid (fun W => Of_any s W (by omega) (by omega))
      have COf2 := Lib.hid (fun W => Of_any q W (by omega) (by omega))
      have CAt := Lib.hid (fun W (h : Below w.heap.size w W) => At_any (some ⟨b, o, none⟩) c m u p g W w.heap.size (HR.out W h) h.size)
      rw [q1] at CAt
      have CMul := Lib.hid (fun W => RMul_any s q W)
      have CAdd := Lib.hid (fun W => RAdd_any V (s * q) W)
      rw [show V + s * q = cst n u p (k + 1) by rw [cx, Int.mul_comm]] at CAdd
      obtain ⟨V2, hV2⟩ := named (cst n u p (k + 1))
      have HV2 := Lib.hid hV2
      rw [hV2] at CAdd
      unfold bl at HV
      unfold bg at COf1 COf2 CMul CAdd
      generalize s * q = sq at *
      obtain ⟨s0, hs0⟩ := named (dg0 s)
      obtain ⟨s1, hs1⟩ := named (dg1 s)
      obtain ⟨s2, hs2⟩ := named (dg2 s)
      obtain ⟨s3, hs3⟩ := named (dg3 s)
      rw [hs0, hs1, hs2, hs3] at COf1 CMul
      clear hs0 hs1 hs2 hs3
      obtain ⟨t0, hs0⟩ := named (dg0 q)
      obtain ⟨t1, hs1⟩ := named (dg1 q)
      obtain ⟨t2, hs2⟩ := named (dg2 q)
      obtain ⟨t3, hs3⟩ := named (dg3 q)
      rw [hs0, hs1, hs2, hs3] at COf2 CMul
      clear hs0 hs1 hs2 hs3
      obtain ⟨y0, hs0⟩ := named (dg0 sq)
      obtain ⟨y1, hs1⟩ := named (dg1 sq)
      obtain ⟨y2, hs2⟩ := named (dg2 sq)
      obtain ⟨y3, hs3⟩ := named (dg3 sq)
      rw [hs0, hs1, hs2, hs3] at CMul CAdd
      clear hs0 hs1 hs2 hs3
      obtain ⟨v0, hs0⟩ := named (dg0 V)
      obtain ⟨v1, hs1⟩ := named (dg1 V)
      obtain ⟨v2, hs2⟩ := named (dg2 V)
      obtain ⟨v3, hs3⟩ := named (dg3 V)
      rw [hs0, hs1, hs2, hs3] at CAdd HV
      clear hs0 hs1 hs2 hs3
      obtain ⟨r0, hr0⟩ := named (dg0 V2)
      obtain ⟨r1, hr1⟩ := named (dg1 V2)
      obtain ⟨r2, hr2⟩ := named (dg2 V2)
      obtain ⟨r3, hr3⟩ := named (dg3 V2)
      have HRR : Hid (bl (cst n u p (k + 1)) = [.int .u64 r0, .int .u64 r1, .int .u64 r2, .int .u64 r3]) := Lib.hid (by unfold bl; rw [HV2.out, hr0, hr1, hr2, hr3])
      rw [hr0, hr1, hr2, hr3] at CAdd
      clear hr0 hr1 hr2 hr3 hV2
      have c0 := HV.out.c 0 _ rfl
      have c1 := HV.out.c 1 _ rfl
      have c2 := HV.out.c 2 _ rfl
      have c3 := HV.out.c 3 _ rfl
      have hcase := en_case n x
      rw [hg] at hcase
      clear hc q1 q2 q3 q4 q5 nx cx sx hx hq ha hs hV hg hlt
      rcases hcase with ⟨rfl, hgn⟩ | ⟨h1, h2, hgn⟩ | ⟨h1, h2, hgn⟩
      · subst hgn
        go_wp2_with fail
        have HBd : Hid (Below w.heap.size w wr.drew) := Lib.hid HX.out.drew
        have Vd := Lib.hid HV.out.drew
        go_region_with (first | (go_at_call 20; with_reducible refine (CAdd.out _).mono ?_; rintro e wf ⟨rfl, hb⟩; have HBf := Lib.hid (HBe.out.trans (hb.mono HBe.out.size)); have Vf := Lib.hid (Ve.out.bel hb); have kf0 := Vf.out.c 0 _ rfl; have kf1 := Vf.out.c 1 _ rfl; have kf2 := Vf.out.c 2 _ rfl; have kf3 := Vf.out.c 3 _ rfl; have kf4 := Vf.out.z 0; have kf5 := Vf.out.z 1; have kf6 := Vf.out.z 2; have kf7 := Vf.out.z 3; clear hb) | (go_at_call 21; with_reducible refine (CMul.out _).mono ?_; rintro e we ⟨rfl, hb⟩; have HBe := Lib.hid (HBc.out.trans (hb.mono HBc.out.size)); have Ve := Lib.hid (Vc.out.bel hb); have ke0 := Ve.out.c 0 _ rfl; have ke1 := Ve.out.c 1 _ rfl; have ke2 := Ve.out.c 2 _ rfl; have ke3 := Ve.out.c 3 _ rfl; have ke4 := Ve.out.z 0; have ke5 := Ve.out.z 1; have ke6 := Ve.out.z 2; have ke7 := Ve.out.z 3; clear hb) | (go_at_call 22; with_reducible refine (COf2.out _).mono ?_; rintro e wc ⟨rfl, hb⟩; have HBc := Lib.hid (HBb.out.trans (hb.mono HBb.out.size)); have Vc := Lib.hid (Vb.out.bel hb); have kc0 := Vc.out.c 0 _ rfl; have kc1 := Vc.out.c 1 _ rfl; have kc2 := Vc.out.c 2 _ rfl; have kc3 := Vc.out.c 3 _ rfl; have kc4 := Vc.out.z 0; have kc5 := Vc.out.z 1; have kc6 := Vc.out.z 2; have kc7 := Vc.out.z 3; clear hb) | (go_at_call 14; with_reducible refine (CAt.out wa HBa.out).mono ?_; rintro e wb ⟨rfl, hb⟩; have HBb := Lib.hid (HBa.out.trans (hb.mono HBa.out.size)); have Vb := Lib.hid (Va.out.bel hb); have kb0 := Vb.out.c 0 _ rfl; have kb1 := Vb.out.c 1 _ rfl; have kb2 := Vb.out.c 2 _ rfl; have kb3 := Vb.out.c 3 _ rfl; have kb4 := Vb.out.z 0; have kb5 := Vb.out.z 1; have kb6 := Vb.out.z 2; have kb7 := Vb.out.z 3; clear hb) | (go_at_call 22; with_reducible refine (COf1.out _).mono ?_; rintro e wa ⟨rfl, hb⟩; have HBa := Lib.hid (HBd.out.trans (hb.mono HBd.out.size)); have Va := Lib.hid (Vd.out.bel hb); have ka0 := Va.out.c 0 _ rfl; have ka1 := Va.out.c 1 _ rfl; have ka2 := Va.out.c 2 _ rfl; have ka3 := Va.out.c 3 _ rfl; have ka4 := Va.out.z 0; have ka5 := Va.out.z 1; have ka6 := Va.out.z 2; have ka7 := Va.out.z 3; clear hb))
        all_goals
          go_wp2_with fail
          go_roundw
          case rel =>
            refine ⟨k + 1, by omega, by go_num, by rw [HE.out.1], Lib.hid ?_, Lib.hid ?_⟩
            · rw [HRR.out]; exact (((Vf.out.set 0 (by simp) _).set 1 (by simp) _).set 2 (by simp) _).set 3 (by simp) _
            · exact bel_set (bel_set (bel_set (bel_set HBf.out B1.out.size _) B1.out.size _) B1.out.size _) B1.out.size _
          case measure => simp [intOf]; omega
      · have z3 : (x != 0) = true := by simp [h1]
        have z4 : (x < n) = False := by simp; omega
        have z5 : (x == 0) = false := by simp [h1]
        subst hgn
        clear h1 h2
        go_wp2_with fail
        have HBd : Hid (Below w.heap.size w wr.drew) := Lib.hid HX.out.drew
        have Vd := Lib.hid HV.out.drew
        go_region_with (first | (go_at_call 20; with_reducible refine (CAdd.out _).mono ?_; rintro e wf ⟨rfl, hb⟩; have HBf := Lib.hid (HBe.out.trans (hb.mono HBe.out.size)); have Vf := Lib.hid (Ve.out.bel hb); have kf0 := Vf.out.c 0 _ rfl; have kf1 := Vf.out.c 1 _ rfl; have kf2 := Vf.out.c 2 _ rfl; have kf3 := Vf.out.c 3 _ rfl; have kf4 := Vf.out.z 0; have kf5 := Vf.out.z 1; have kf6 := Vf.out.z 2; have kf7 := Vf.out.z 3; clear hb) | (go_at_call 21; with_reducible refine (CMul.out _).mono ?_; rintro e we ⟨rfl, hb⟩; have HBe := Lib.hid (HBc.out.trans (hb.mono HBc.out.size)); have Ve := Lib.hid (Vc.out.bel hb); have ke0 := Ve.out.c 0 _ rfl; have ke1 := Ve.out.c 1 _ rfl; have ke2 := Ve.out.c 2 _ rfl; have ke3 := Ve.out.c 3 _ rfl; have ke4 := Ve.out.z 0; have ke5 := Ve.out.z 1; have ke6 := Ve.out.z 2; have ke7 := Ve.out.z 3; clear hb) | (go_at_call 22; with_reducible refine (COf2.out _).mono ?_; rintro e wc ⟨rfl, hb⟩; have HBc := Lib.hid (HBb.out.trans (hb.mono HBb.out.size)); have Vc := Lib.hid (Vb.out.bel hb); have kc0 := Vc.out.c 0 _ rfl; have kc1 := Vc.out.c 1 _ rfl; have kc2 := Vc.out.c 2 _ rfl; have kc3 := Vc.out.c 3 _ rfl; have kc4 := Vc.out.z 0; have kc5 := Vc.out.z 1; have kc6 := Vc.out.z 2; have kc7 := Vc.out.z 3; clear hb) | (go_at_call 14; with_reducible refine (CAt.out wa HBa.out).mono ?_; rintro e wb ⟨rfl, hb⟩; have HBb := Lib.hid (HBa.out.trans (hb.mono HBa.out.size)); have Vb := Lib.hid (Va.out.bel hb); have kb0 := Vb.out.c 0 _ rfl; have kb1 := Vb.out.c 1 _ rfl; have kb2 := Vb.out.c 2 _ rfl; have kb3 := Vb.out.c 3 _ rfl; have kb4 := Vb.out.z 0; have kb5 := Vb.out.z 1; have kb6 := Vb.out.z 2; have kb7 := Vb.out.z 3; clear hb) | (go_at_call 22; with_reducible refine (COf1.out _).mono ?_; rintro e wa ⟨rfl, hb⟩; have HBa := Lib.hid (HBd.out.trans (hb.mono HBd.out.size)); have Va := Lib.hid (Vd.out.bel hb); have ka0 := Va.out.c 0 _ rfl; have ka1 := Va.out.c 1 _ rfl; have ka2 := Va.out.c 2 _ rfl; have ka3 := Va.out.c 3 _ rfl; have ka4 := Va.out.z 0; have ka5 := Va.out.z 1; have ka6 := Va.out.z 2; have ka7 := Va.out.z 3; clear hb))
        all_goals
          go_wp2_with fail
          go_roundw
          case rel =>
            refine ⟨k + 1, by omega, by go_num, by rw [HE.out.1], Lib.hid ?_, Lib.hid ?_⟩
            · rw [HRR.out]; exact (((Vf.out.set 0 (by simp) _).set 1 (by simp) _).set 2 (by simp) _).set 3 (by simp) _
            · exact bel_set (bel_set (bel_set (bel_set HBf.out B1.out.size _) B1.out.size _) B1.out.size _) B1.out.size _
          case measure => simp [intOf]; omega
      · have z3 : (x != 0) = true := by simp [h1]
        have z4 : (x < n) = True := by simp [h2]
        have z5 : (x == 0) = false := by simp [h1]
        subst hgn
        clear h1 h2
        go_wp2_with fail
        have HBd : Hid (Below w.heap.size w wr.drew) := Lib.hid HX.out.drew
        have Vd := Lib.hid HV.out.drew
        go_region_with (first | (go_at_call 20; with_reducible refine (CAdd.out _).mono ?_; rintro e wf ⟨rfl, hb⟩; have HBf := Lib.hid (HBe.out.trans (hb.mono HBe.out.size)); have Vf := Lib.hid (Ve.out.bel hb); have kf0 := Vf.out.c 0 _ rfl; have kf1 := Vf.out.c 1 _ rfl; have kf2 := Vf.out.c 2 _ rfl; have kf3 := Vf.out.c 3 _ rfl; have kf4 := Vf.out.z 0; have kf5 := Vf.out.z 1; have kf6 := Vf.out.z 2; have kf7 := Vf.out.z 3; clear hb) | (go_at_call 21; with_reducible refine (CMul.out _).mono ?_; rintro e we ⟨rfl, hb⟩; have HBe := Lib.hid (HBc.out.trans (hb.mono HBc.out.size)); have Ve := Lib.hid (Vc.out.bel hb); have ke0 := Ve.out.c 0 _ rfl; have ke1 := Ve.out.c 1 _ rfl; have ke2 := Ve.out.c 2 _ rfl; have ke3 := Ve.out.c 3 _ rfl; have ke4 := Ve.out.z 0; have ke5 := Ve.out.z 1; have ke6 := Ve.out.z 2; have ke7 := Ve.out.z 3; clear hb) | (go_at_call 22; with_reducible refine (COf2.out _).mono ?_; rintro e wc ⟨rfl, hb⟩; have HBc := Lib.hid (HBb.out.trans (hb.mono HBb.out.size)); have Vc := Lib.hid (Vb.out.bel hb); have kc0 := Vc.out.c 0 _ rfl; have kc1 := Vc.out.c 1 _ rfl; have kc2 := Vc.out.c 2 _ rfl; have kc3 := Vc.out.c 3 _ rfl; have kc4 := Vc.out.z 0; have kc5 := Vc.out.z 1; have kc6 := Vc.out.z 2; have kc7 := Vc.out.z 3; clear hb) | (go_at_call 14; with_reducible refine (CAt.out wa HBa.out).mono ?_; rintro e wb ⟨rfl, hb⟩; have HBb := Lib.hid (HBa.out.trans (hb.mono HBa.out.size)); have Vb := Lib.hid (Va.out.bel hb); have kb0 := Vb.out.c 0 _ rfl; have kb1 := Vb.out.c 1 _ rfl; have kb2 := Vb.out.c 2 _ rfl; have kb3 := Vb.out.c 3 _ rfl; have kb4 := Vb.out.z 0; have kb5 := Vb.out.z 1; have kb6 := Vb.out.z 2; have kb7 := Vb.out.z 3; clear hb) | (go_at_call 22; with_reducible refine (COf1.out _).mono ?_; rintro e wa ⟨rfl, hb⟩; have HBa := Lib.hid (HBd.out.trans (hb.mono HBd.out.size)); have Va := Lib.hid (Vd.out.bel hb); have ka0 := Va.out.c 0 _ rfl; have ka1 := Va.out.c 1 _ rfl; have ka2 := Va.out.c 2 _ rfl; have ka3 := Va.out.c 3 _ rfl; have ka4 := Va.out.z 0; have ka5 := Va.out.z 1; have ka6 := Va.out.z 2; have ka7 := Va.out.z 3; clear hb))
        all_goals
          go_wp2_with fail
          go_roundw
          case rel =>
            refine ⟨k + 1, by omega, by go_num, by rw [HE.out.1], Lib.hid ?_, Lib.hid ?_⟩
            · rw [HRR.out]; exact (((Vf.out.set 0 (by simp) _).set 1 (by simp) _).set 2 (by simp) _).set 3 (by simp) _
            · exact bel_set (bel_set (bel_set (bel_set HBf.out B1.out.size _) B1.out.size _) B1.out.size _) B1.out.size _
          case measure => simp [intOf]; omega
    · have hT : cst n u p k = cst n u p m := by
        by_cases h : k < m
        · have : n ≤ ahd n u k := by rcases Int.lt_or_le (ahd n u k) n with x | x; exact absurd ⟨h, x⟩ hkn; exact x
          exact ((HOk.out.full hn this m (by omega) (Nat.le_refl m)).1).symm
        · rw [show k = m by omega]
      have hi := HOk.out.cst_hi hn k hk
      have ha := HOk.out.ahd_bd hn (k := k) hk
      have h0 := HOk.out.cst0 hn (k := k) hk
      have CS := Lib.hid (fun W => Small_any (cst n u p k) W (by omega) (by omega))
      have z2 : k = m ∨ (k < m ∧ ((ahd n u k < n) = False)) := by
        by_cases h : k < m
        · exact .inr ⟨h, by simp; rcases Int.lt_or_le (ahd n u k) n with x | x; exact absurd ⟨h, x⟩ hkn; exact x⟩
        · exact .inl (by omega)
      obtain ⟨T, hT2⟩ := named (cst n u p k)
      obtain ⟨a, haa⟩ := named (ahd n u k)
      unfold bl at HV
      unfold bg at CS
      rw [hT2] at CS HV h0
      rw [haa] at z2 ⊢
      have HT := Lib.hid (hT.symm.trans hT2)
      obtain ⟨v0, hs0⟩ := named (dg0 T)
      obtain ⟨v1, hs1⟩ := named (dg1 T)
      obtain ⟨v2, hs2⟩ := named (dg2 T)
      obtain ⟨v3, hs3⟩ := named (dg3 T)
      rw [hs0, hs1, hs2, hs3] at CS HV
      clear hs0 hs1 hs2 hs3
      have c0 := HV.out.c 0 _ rfl
      have c1 := HV.out.c 1 _ rfl
      have c2 := HV.out.c 2 _ rfl
      have c3 := HV.out.c 3 _ rfl
      cases hi2 : isn T with
      | true =>
        rw [hi2, na_t hi2] at CS
        have HI := Lib.hid hi2
        have z3 : (T < 0) = False := by simp; omega
        clear hT hi ha h0 hT2 haa hi2 hkn HRow HR
        rcases z2 with rfl | ⟨z2, z4⟩
        all_goals
          go_wp2_with fail
          refine (CS.out _).mono ?_
          rintro e w3 ⟨rfl, hb⟩
          have B3 := Lib.hid (HX.out.trans (hb.mono HX.out.size)); clear hb
          go_wp2_with fail
          go_ret2
          exact ⟨by rw [HT.out, na_t HI.out, ne_t HI.out]; rfl, B3.out⟩
      | false =>
        rw [hi2, na_f hi2] at CS
        have HI := Lib.hid hi2
        clear hT hi ha h0 hT2 haa hi2 hkn HRow HR
        rcases z2 with rfl | ⟨z2, z4⟩
        all_goals
          go_wp2_with fail
          refine (CS.out _).mono ?_
          rintro e w3 ⟨rfl, hb⟩
          have B3 := Lib.hid (HX.out.trans (hb.mono HX.out.size)); clear hb
          go_wp2_with fail
          go_ret2
          exact ⟨by rw [HT.out, na_f HI.out, ne_f HI.out]; rfl, B3.out⟩
theorem RPrice_any (A : Option Addr) (c m : Nat) (u p : Nat → Int) (n : Int) (w : World) (B : Nat) (hr : RdT w B A c u p m) (hB : B ≤ w.heap.size) (hn1 : n ≤ 9223372036854775807) :
    Calls Try.prog 9 #[.slice A m c, .int .i64 n] w fun e w' => e = .returned (.tuple #[.int .i64 (pca (okB u p m) n u p m), .int .i64 (pce (okB u p m) n u p m)]) ∧ Below w.heap.size w w' := by
  unfold pca pce
  cases ho : okB u p m with
  | false => exact RPrice_no A c m u p n w B hr hB (.inl ho)
  | true =>
    rcases Int.lt_or_le n 0 with h | h
    · rw [show (true && decide (0 ≤ n)) = false by simp; omega]
      exact RPrice_no A c m u p n w B hr hB (.inr ⟨ho, h⟩)
    · rw [show (true && decide (0 ≤ n)) = true by simp; omega]
      exact RPrice_yes A c m u p n w B hr hB (okB_iff.1 ho) h hn1
end Go.Proofs.Ythaleikmdoijbaa.Ti
