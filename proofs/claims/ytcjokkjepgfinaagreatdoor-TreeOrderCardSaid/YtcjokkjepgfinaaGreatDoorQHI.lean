import Derived.Test.YtcjokkjepgfinaaGreatDoorQHG
set_option linter.unusedVariables false
set_option linter.unusedSimpArgs false
namespace Go.Proofs.YtcjokkjepgfinaaGreatDoor.Tr
set_option maxRecDepth 8000
open Go.RowKit Mem Sk
open Dk (Fr)
section
variable {B : Nat} {W w w' : World} {sb db : Nat} {y y' : SLay} {s s' : Sto} {yd yd' : Dk.Lay} {d d' : Dk.Dsk} {m m' : Nat} {F G : Nat → Prop} {N : Nat} {v : Value} {key : By}
structure But (P : Nat → Prop) (w w' : World) : Prop where
  os : w'.os = w.os
  tape : w'.tape = w.tape
  output : w'.output = w.output
  size : w.heap.size ≤ w'.heap.size
  block : ∀ q, q < w.heap.size → ¬ P q → w'.heap[q]? = w.heap[q]?
theorem But.bel {P : Nat → Prop} (h : Below w.heap.size w w') : But P w w' := ⟨h.os, h.tape, h.output, h.size, fun q hq _ => h.block q hq⟩
theorem But.trans {P : Nat → Prop} {w1 w2 w3 : World} (h : But P w1 w2) (k : But P w2 w3) : But P w1 w3 :=
  ⟨k.os.trans h.os, k.tape.trans h.tape, k.output.trans h.output, Nat.le_trans h.size k.size, fun q hq hp => (k.block q (Nat.lt_of_lt_of_le hq h.size) hp).trans (h.block q hq hp)⟩
theorem But.set {P : Nat → Prop} (h : But P w w') {b i : Nat} (hb : P b) (u : Value) : But P w (w'.setCell ⟨b, i, none⟩ u) :=
  ⟨h.os, h.tape, h.output, by rw [size_setCell]; exact h.size, fun q hq hp => (Below.heap_setCell _ _ _ _ (fun e => hp (by have e : q = b := e; rw [e]; exact hb))).trans (h.block q hq hp)⟩
theorem getK_of {l : List It} {key : By} (h : hasK l key = true) : ∃ hi : lows l key < l.length, getK l key = some l[lows l key].2 := by
  unfold hasK at h
  split at h
  case h_1 x hx =>
    obtain ⟨hi, rfl⟩ := List.getElem?_eq_some_iff.1 hx
    have e : l[lows l key].1 = key := by simpa using h
    exact ⟨hi, by unfold getK; rw [hx]; simp [e]⟩
  case h_2 => cases h
theorem getK_no {l : List It} {key : By} (h : hasK l key = false) : getK l key = none := by
  unfold hasK at h
  unfold getK
  split at h
  case h_1 x hx => have : ¬ x.1 = key := by simpa using h
                   rw [hx]; simp [this]
  case h_2 hx => rw [hx]
theorem len_of_isum (l : List It) (i : Nat) (h : i < l.length) : l[i].2.length ≤ isum l := by
  have := isum_take_drop l i
  rw [List.drop_eq_getElem_cons h, isum_cons] at this
  unfold isz at this
  omega
set_option maxHeartbeats 8000000 in
theorem get1_any {A3 : Option Addr} {c3 k p : Nat} {l : Its k} (bo : Bo B W w sb db y yd s d m) (hg : Sk.gone s d = false) (t : TreeIn s d k p l) (h3 : RdF w (fun _ => False) (.slice A3 key.length c3) key)
    {b0 b1 b2 b3 : Nat} {x : Bool} (v0 : VN w b0 [pt sb]) (v1 : VN w b1 [.slice A3 key.length c3]) (v2 : VN w b2 [.bool x]) (v3 : VN w b3 [.slice none 0 0]) (h23 : b2 ≠ b3) (h02 : b0 ≠ b2) (h12 : b1 ≠ b2) :
    Calls Tryz.prog 37 #[.pointer (some ⟨b0, 0, none⟩), .pointer (some ⟨b1, 0, none⟩), .pointer (some ⟨b2, 0, none⟩), .pointer (some ⟨b3, 0, none⟩)] w fun e w' => e = .returned (.tuple #[]) ∧
      ∃ v, VN w' b2 [.bool (hasK (prs k l) key)] ∧ VN w' b3 [v] ∧ (∀ l', getK (prs k l) key = some l' → Mem.Own 5 w' w.heap.size v l') ∧ (getK (prs k l) key = none → v = .slice none 0 0) ∧ But (fun q => q = b2 ∨ q = b3) w w' := by
  obtain ⟨lo1, lo2, lo3, lo4⟩ := t.leaf key
  rw [← its0 (leafOf key k l)] at lo4
  rw [lo3, lo4]
  have DN := Lib.hid (fun X (hb : Below w.heap.size w X) => down_tree (bo.keep hb) hg t (h3.bel hb))
  have LV := Lib.hid t.lev
  have V0 := Lib.hid v0
  have V1 := Lib.hid v1
  have V2 := Lib.hid v2
  have V3 := Lib.hid v3
  have H3 := Lib.hid h3
  obtain ⟨lf, hlf⟩ : ∃ lf, lf = leafOf key k l := ⟨_, rfl⟩
  rw [← hlf] at lo1 lo2 ⊢
  have HLF := Lib.hid hlf
  have LO := Lib.hid (And.intro lo1 lo2)
  have a0 := v0.c 0 _ rfl
  have a1 := v1.c 0 _ rfl
  clear bo t lo1 lo2 lo3 lo4 hlf v0 v1 v2 v3 h3 hg
  cases hh : hasK (its lf) key with
  | false =>
    have HG := Lib.hid (getK_no hh)
    have HHH := Lib.hid hh
    clear hh
    have t1 := trivial
    go_enter Tryz.func37, Tryz.ntmps37
    go_wp2_with (first
      | (go_at_call 31; refine (DN.out _ (Below.refl _ _)).mono ?_; rintro e w1 ⟨vv, cs, rfl, g1, g2, g3⟩; have WR := Lib.hid g1; have WY := Lib.hid g2; have B1 := Lib.hid g3; clear g1 g2 g3)
      | (go_at_call 32; refine (leaf_tree LV.out WR.out WY.out).mono ?_; rintro e w2 ⟨q, A2, A4, A5, n2, n4, c2, c4, c5, rfl, g1, g2⟩; rw [← HLF.out] at g1 ⊢; have FN := Lib.hid (fun X (hb : Below w1.heap.size w1 X) => find_any (key := key) (q : Int) 0 A2 A4 n2 n4 c2 c4 (g1.kr.kf (kfb hb)) LO.out.1 (by have := LO.out.2; omega) ((H3.out.bel (B1.out.trans (hb.mono B1.out.size))).rdd)); have B2 := Lib.hid (B1.out.trans (g2.mono B1.out.size)); have B12 := Lib.hid g2; have G1 := Lib.hid g1; have W2 := Lib.hid (V1.out.bel B2.out); clear g1 g2 a0 a1; have a1 := (W2.out.alloc (.cells #[.int .i64 (q : Int), .int .i64 0, .slice A2 n2 c2, .slice A4 n4 c4, .slice A5 (its lf).length c5] 75)).c 0 _ rfl)
      | (go_at_call 33; refine (FN.out _ (B12.out.trans ((box1 _ _).mono B12.out.size))).mono ?_; rintro e w3 ⟨rfl, hb⟩; rw [HHH.out]; have B23 := Lib.hid ((box1 w2 (.cells #[.int .i64 (q : Int), .int .i64 0, .slice A2 n2 c2, .slice A4 n4 c4, .slice A5 (its lf).length c5] 75)).trans (hb.mono (by simp))); have U2 := Lib.hid ((V2.out.bel B2.out).bel B23.out); have U3 := Lib.hid ((V3.out.bel B2.out).bel B23.out); have u2 := U2.out.c 0 _ rfl; have z2 := U2.out.z 0; clear hb a1))
    go_end0
    exact ⟨rfl, .slice none 0 0, U2.out.set 0 (by simp) _, U3.out.other (p := ⟨b2, 0, none⟩) h23 _, fun l' e => (by rw [HG.out] at e; cases e), fun _ => rfl, (But.bel (B2.out.trans (B23.out.mono B2.out.size))).set (.inl rfl) _⟩
  | true =>
    obtain ⟨hi, hgk⟩ := getK_of hh
    have HG := Lib.hid hgk
    have HHH := Lib.hid hh
    have HI := Lib.hid hi
    obtain ⟨i, hii⟩ : ∃ i, i = lows (its lf) key := ⟨_, rfl⟩
    have HII := Lib.hid hii
    have hlen : (its lf).length ≤ 100000 := by have := len_le_isum (its lf); have := LO.out.2; omega
    have i1 : (0 : Int) ≤ (i : Int) := by omega
    have i2 : (i : Int) < ((its lf).length : Int) := by omega
    have i3 : IntKind.i64.wrap (i : Int) = (i : Int) := by rw [IntKind.wrap_i64]; omega
    have i4 : (i : Int).toNat = i := by omega
    clear hh hgk hii
    have t1 := trivial
    go_enter Tryz.func37, Tryz.ntmps37
    go_wp2_with (first
      | (go_at_call 31; refine (DN.out _ (Below.refl _ _)).mono ?_; rintro e w1 ⟨vv, cs, rfl, g1, g2, g3⟩; have WR := Lib.hid g1; have WY := Lib.hid g2; have B1 := Lib.hid g3; clear g1 g2 g3)
      | (go_at_call 32; refine (leaf_tree LV.out WR.out WY.out).mono ?_; rintro e w2 ⟨q, A2, A4, A5, n2, n4, c2, c4, c5, rfl, g1, g2⟩; rw [← HLF.out] at g1 ⊢; have FN := Lib.hid (fun X (hb : Below w1.heap.size w1 X) => find_any (key := key) (q : Int) 0 A2 A4 n2 n4 c2 c4 (g1.kr.kf (kfb hb)) LO.out.1 (by have := LO.out.2; omega) ((H3.out.bel (B1.out.trans (hb.mono B1.out.size))).rdd)); have B2 := Lib.hid (B1.out.trans (g2.mono B1.out.size)); have B12 := Lib.hid g2; have G1 := Lib.hid g1; have W2 := Lib.hid (V1.out.bel B2.out); clear g1 g2 a0 a1; have a1 := (W2.out.alloc (.cells #[.int .i64 (q : Int), .int .i64 0, .slice A2 n2 c2, .slice A4 n4 c4, .slice A5 (its lf).length c5] 75)).c 0 _ rfl))
    go_at_call 33
    refine (FN.out _ (B12.out.trans ((box1 _ _).mono B12.out.size))).mono ?_
    rintro e w3 ⟨rfl, hb⟩
    rw [HHH.out, ← HII.out]
    have B23 := Lib.hid ((box1 w2 (.cells #[.int .i64 (q : Int), .int .i64 0, .slice A2 n2 c2, .slice A4 n4 c4, .slice A5 (its lf).length c5] 75)).trans (hb.mono (by simp)))
    have U2 := Lib.hid ((V2.out.bel B2.out).bel B23.out)
    have U3 := Lib.hid ((V3.out.bel B2.out).bel B23.out)
    have u2 := U2.out.c 0 _ rfl
    have z2 := U2.out.z 0
    have N3 := Lib.hid ((VN.new w2 #[.int .i64 (q : Int), .int .i64 0, .slice A2 n2 c2, .slice A4 n4 c4, .slice A5 (its lf).length c5] 75).bel hb)
    have n4 := N3.out.c 4 _ rfl
    obtain ⟨A6, c6, e6, -, -, -, h6⟩ := G1.out
    injection e6 with e6 e7 e8
    obtain ⟨b', o', e9, -, hf, -⟩ := h6 (Nat.lt_of_le_of_lt (Nat.zero_le _) HI.out)
    rw [← e6] at e9
    clear h6 e6 e7 e8
    obtain ⟨b5, o5, Ak, ck, Ar, cr, qq, e10, -, gc, -, -, -, -, gr⟩ := G1.out.kr.at (i := i) (by rw [HII.out]; exact HI.out)
    rw [e9] at e10
    injection e10 with e10
    injection e10 with e10 e11
    subst e10 e11
    subst e9
    have gc := cell_bel (B12.out.trans (B23.out.mono B12.out.size)) gc
    have GR := Lib.hid (gr.bel (B12.out.trans (B23.out.mono B12.out.size)))
    have hb2 : b2 < w.heap.size := V2.out.lt
    have hf : ¬ b' < w.heap.size := hf
    have d1 : ¬ b' = b2 := fun e => hf (e ▸ hb2)
    have d2 : ¬ b2 = b' := fun e => d1 e.symm
    have d3 : ¬ w2.heap.size = b2 := fun e => by have := B2.out.size; omega
    have d4 : ¬ b2 = w2.heap.size := fun e => d3 e.symm
    clear gr hf hb a1
    have t2 := trivial
    go_wp2_with fail
    go_at_call 38
    have hrd := (GR.out.kf (Kf.same (F := fun q => q < w.heap.size) (w' := w3.setCell ⟨b2, 0, none⟩ (.bool true)) ⟨rfl, rfl, rfl, by rw [size_setCell]; exact Nat.le_refl _, fun q hq hf => Below.heap_setCell _ _ _ _ (fun e => hf (by have e : q = b2 := e; rw [e]; exact V2.out.lt))⟩)).rdd
    have hle := len_of_isum (its lf) i (by rw [HII.out]; exact HI.out)
    have hsu := LO.out.2
    refine (clone_any Ar cr _ _ _ hrd rfl (by omega)).mono ?_
    clear hrd hle hsu
    rintro e w5 ⟨v5, rfl, ho, hb⟩
    have P2 := Lib.hid ((U2.out.set 0 (by simp) (.bool true)).bel hb)
    have P3 := Lib.hid ((U3.out.other (p := ⟨b2, 0, none⟩) h23 (.bool true)).bel hb)
    have p3 := P3.out.c 0 _ rfl
    have y3 := P3.out.z 0
    obtain ⟨A7, c7, rfl⟩ := own_len' ho
    have HO := Lib.hid ho
    have B5 := Lib.hid hb
    clear ho hb
    go_wp2_with fail
    go_end0
    have b3lt := V3.out.lt
    have hs := B2.out.size
    have hs2 := B23.out.size
    have hs3 := size_setCell w3 ⟨b2, 0, none⟩ (.bool true)
    refine ⟨rfl, _, P2.out.other (p := ⟨b3, 0, none⟩) (fun e => h23 (by have e : b3 = b2 := e; exact e.symm)) _, P3.out.set 0 (by simp) _, fun l' e => ?_, fun e => (by rw [HG.out] at e; cases e), ((((But.bel (B2.out.trans (B23.out.mono B2.out.size))).set (.inl rfl) _).trans (But.bel B5.out)).set (.inr rfl) _)⟩
    rw [HG.out] at e
    injection e with e
    subst e
    have hi2 := HII.out
    subst hi2
    have hO := HO.out
    have hlow : w.heap.size ≤ (w3.setCell ⟨b2, 0, none⟩ (.bool true)).heap.size := by omega
    have hO2 : Mem.Own 5 w5 w.heap.size _ _ := ⟨hO.1, hO.2.imp id fun ⟨g, cap, cur, h1, h2, h3⟩ => ⟨g, cap, cur, h1, Nat.le_trans hlow h2, h3⟩⟩
    exact Dk.owns_of_block hO2 fun g hg => Below.heap_setCell _ _ _ _ (fun e => by have e : g = b3 := e; have := (World.ownsRow.lt hO2 g hg).1; omega)
end
end Go.Proofs.YtcjokkjepgfinaaGreatDoor.Tr
