import Derived.Test.YtcjokkjepgfinaaGreatDoorQHA
set_option linter.unusedVariables false
set_option linter.unusedSimpArgs false
namespace Go.Proofs.YtcjokkjepgfinaaGreatDoor.Tr
set_option maxRecDepth 8000
open Go.RowKit Mem Sk
open Dk (Fr)
section
variable {B : Nat} {W w w' : World} {sb db : Nat} {y y' : SLay} {s s' : Sto} {yd yd' : Dk.Lay} {d d' : Dk.Dsk} {m m' : Nat}
set_option maxHeartbeats 4000000 in
theorem top_any (bo : Bo B W w sb db y yd s d m) (hg : Sk.gone s d = false) {k : Nat} {l : Its k} (hp : PageOk s d s.cur.now.root (told k l)) (h0 : s.cur.now.root ≠ 0) (hk : k < 256) (hr : Right k [] [] l) (hs : nsz l ≤ 4011) :
    Calls Tryz.prog 41 #[pt sb] w fun e w' =>
      ∃ v, e = .returned (.agg #[.int .i64 (s.cur.now.root : Int), .int .i64 (k : Int), .slice none 0 0, .slice none 0 0, v]) ∧ KR0 w' (fun q => q < w.heap.size) w.heap.size v (its l) ∧ Below w.heap.size w w' := by
  obtain ⟨W0, hW0⟩ : ∃ X, X = w.alloc (.cells #[.int .i64 0, .int .i64 0, .slice none 0 0, .slice none 0 0, .slice none 0 0] 75) := ⟨_, rfl⟩
  have B0 := Lib.hid (show Below w.heap.size w W0 from hW0 ▸ box1 w _)
  have R0 := Lib.hid (show VN W0 w.heap.size [.int .i64 0, .int .i64 0, .slice none 0 0, .slice none 0 0, .slice none 0 0] from hW0 ▸ VN.new w _ _)
  have hroot := Root_any (bo.keep B0.out).is (bo.keep B0.out).st.is
  rw [if_neg (by rw [hg]; simp)] at hroot
  have HRO := Lib.hid hroot
  have C := Lib.hid (fun X (hb : Below W0.heap.size W0 X) => read_any ((bo.keep B0.out).keep hb) (A1 := none) (A2 := none) (c1 := 0) (c2 := 0) (lo := []) (hi := []) hp hk hr hs (RdF.nil _ (fun _ => False)) (RdF.nil _ (fun _ => False)))
  have hs0 : W0.heap.size = w.heap.size + 1 := by rw [hW0]; simp
  have HS0 := Lib.hid hs0
  clear hs0
  have HW0 := Lib.hid hW0
  generalize hro : s.cur.now.root = r at *
  have hne : ((r : Int) != 0) = true := by simp; omega
  clear bo hp hr hs hW0 hroot h0 hro
  go_enter Tryz.func41, Tryz.ntmps41
  go_wp2_with fail
  rw [← HW0.out]
  go_wp2_with (first
    | (go_at_call 49; refine HRO.out.mono ?_; rintro e w1 ⟨rfl, hb⟩; have B1 := Lib.hid hb; have R1 := Lib.hid (R0.out.bel hb); clear hb)
    | (go_at_call 71; refine (C.out _ B1.out).mono ?_; rintro e w2 ⟨v2, rfl, hkr, hb⟩; obtain ⟨A4, c4, rfl, -, -⟩ := hkr.kr.form; have KR2 := Lib.hid hkr; have B2 := Lib.hid (B1.out.trans (hb.mono B1.out.size)); have R2 := Lib.hid (R1.out.bel hb); have r0 := R2.out.c 0 _ rfl; have r1 := R2.out.c 1 _ rfl; have r2 := R2.out.c 2 _ rfl; have r3 := R2.out.c 3 _ rfl; have r4 := R2.out.c 4 _ rfl; have z0 := R2.out.z 0; have z1 := R2.out.z 1; have z2 := R2.out.z 2; have z3 := R2.out.z 3; have z4 := R2.out.z 4; clear hkr hb))
  have Z := ((((R2.out.set 0 (by simp) (.int .i64 (r : Int))).set 1 (by simp) (.int .i64 (k : Int))).set 2 (by simp) (.slice none 0 0)).set 3 (by simp) (.slice none 0 0)).set 4 (by simp) (.slice A4 (its l).length c4)
  refine bodyPost_ret (results_c rfl w.heap.size [.int .i64 (r : Int), .int .i64 (k : Int), .slice none 0 0, .slice none 0 0, .slice A4 (its l).length c4] _ rfl Z.range Tryz.underlying75 rfl info_node) rfl ?_
  have B02 := B0.out.trans (B2.out.mono B0.out.size)
  have hb := bel_set (bel_set (bel_set (bel_set (bel_set B02 (Nat.le_refl _) (i := 0) (.int .i64 (r : Int))) (Nat.le_refl _) (i := 1) (.int .i64 (k : Int))) (Nat.le_refl _) (i := 2) (.slice none 0 0)) (Nat.le_refl _) (i := 3) (.slice none 0 0)) (Nat.le_refl _) (i := 4) (.slice A4 (its l).length c4)
  refine ⟨_, rfl, ?_, hb⟩
  refine (KR2.out.low (by have := B0.out.size; have := B1.out.size; omega)).kf ⟨⟨hb.os.trans B02.os.symm, hb.tape.trans B02.tape.symm, hb.output.trans B02.output.symm, by simp [World.setCell], fun q _ hq => ?_⟩, fun q _ h => by have := HS0.out; have := B1.out.size; have h : q < w.heap.size := h; show q < w1.heap.size; omega⟩
  have hq : q ≠ w.heap.size := fun e => hq (by have := HS0.out; have := B1.out.size; show q < w1.heap.size; omega)
  iterate 5 first | exact (Below.heap_setCell _ _ _ _ hq) | refine (Below.heap_setCell _ _ _ _ hq).trans ?_
theorem root_zero (bo : Bo B W w sb db y yd s d m) (h0 : s.cur.now.root = 0) :
    Calls Tryz.prog 41 #[pt sb] w fun e w' => e = .returned (.agg #[.int .i64 0, .int .i64 0, .slice none 0 0, .slice none 0 0, .slice none 0 0]) ∧ Below w.heap.size w w' := by
  obtain ⟨W0, hW0⟩ : ∃ X, X = w.alloc (.cells #[.int .i64 0, .int .i64 0, .slice none 0 0, .slice none 0 0, .slice none 0 0] 75) := ⟨_, rfl⟩
  have B0 := Lib.hid (show Below w.heap.size w W0 from hW0 ▸ box1 w _)
  have R0 := Lib.hid (show VN W0 w.heap.size [.int .i64 0, .int .i64 0, .slice none 0 0, .slice none 0 0, .slice none 0 0] from hW0 ▸ VN.new w _ _)
  have hroot := Root_any (bo.keep B0.out).is (bo.keep B0.out).st.is
  rw [h0, show (if Sk.gone s d = true then (0 : Int) else ((0 : Nat) : Int)) = 0 by split <;> rfl] at hroot
  have HRO := Lib.hid hroot
  have HW0 := Lib.hid hW0
  clear bo hW0 hroot h0
  go_enter Tryz.func41, Tryz.ntmps41
  go_wp2_with fail
  rw [← HW0.out]
  go_wp2_with (go_at_call 49; refine HRO.out.mono ?_; rintro e w1 ⟨rfl, hb⟩; have B1 := Lib.hid hb; have R1 := Lib.hid (R0.out.bel hb); have r0 := R1.out.c 0 _ rfl; have r1 := R1.out.c 1 _ rfl; have r2 := R1.out.c 2 _ rfl; have r3 := R1.out.c 3 _ rfl; have r4 := R1.out.c 4 _ rfl; have z0 := R1.out.z 0; have z1 := R1.out.z 1; have z2 := R1.out.z 2; have z3 := R1.out.z 3; have z4 := R1.out.z 4; clear hb)
  have Z := ((((R1.out.set 0 (by simp) (.int .i64 0)).set 1 (by simp) (.int .i64 0)).set 2 (by simp) (.slice none 0 0)).set 3 (by simp) (.slice none 0 0)).set 4 (by simp) (.slice none 0 0)
  refine bodyPost_ret (results_c rfl w.heap.size [.int .i64 0, .int .i64 0, .slice none 0 0, .slice none 0 0, .slice none 0 0] _ rfl Z.range Tryz.underlying75 rfl info_node) rfl ?_
  have B02 := B0.out.trans (B1.out.mono B0.out.size)
  exact ⟨rfl, bel_set (bel_set (bel_set (bel_set (bel_set B02 (Nat.le_refl _) (i := 0) (.int .i64 0)) (Nat.le_refl _) (i := 1) (.int .i64 0)) (Nat.le_refl _) (i := 2) (.slice none 0 0)) (Nat.le_refl _) (i := 3) (.slice none 0 0)) (Nat.le_refl _) (i := 4) (.slice none 0 0)⟩
end
section
variable {B : Nat} {W w w' : World} {sb db : Nat} {y y' : SLay} {s s' : Sto} {yd yd' : Dk.Lay} {d d' : Dk.Dsk} {m m' : Nat} {F : Nat → Prop} {N : Nat} {v : Value}
structure BelRel (w wz : World) (F : Nat → Prop) (k p : Nat) (nd : List Value) (kb : Nat) (kv tv iv : Value) (key nx : By) (li : List It) : Prop where
  vn : VN wz kb [.int .i64 (p : Int), .int .i64 (k : Int), kv, tv, iv]
  nb : VN wz w.heap.size nd
  rb : VN wz (w.heap.size + 1) [.int .i64 0, .int .i64 0, .slice none 0 0, .slice none 0 0, .slice none 0 0]
  rk : RdF w F kv key
  rt : RdF w F tv nx
  kr : KR0 wz (fun q => q < w.heap.size + 2) w.heap.size iv li
  bel : Below w.heap.size w wz
theorem set5_block (wx : World) (kb q : Nat) (hq : q ≠ kb) (a b c e f : Value) : (((((wx.setCell ⟨kb, 0, none⟩ a).setCell ⟨kb, 1, none⟩ b).setCell ⟨kb, 2, none⟩ c).setCell ⟨kb, 3, none⟩ e).setCell ⟨kb, 4, none⟩ f).heap[q]? = wx.heap[q]? := by
  exact (Below.heap_setCell _ _ _ _ hq).trans ((Below.heap_setCell _ _ _ _ hq).trans ((Below.heap_setCell _ _ _ _ hq).trans ((Below.heap_setCell _ _ _ _ hq).trans (Below.heap_setCell _ _ _ _ hq))))
theorem VN.set5 {w : World} {b : Nat} {x0 x1 x2 x3 x4 : Value} (h : VN w b [x0, x1, x2, x3, x4]) (a c e f g : Value) :
    VN (((((w.setCell ⟨b, 0, none⟩ a).setCell ⟨b, 1, none⟩ c).setCell ⟨b, 2, none⟩ e).setCell ⟨b, 3, none⟩ f).setCell ⟨b, 4, none⟩ g) b [a, c, e, f, g] :=
  ((((h.set 0 (by simp) a).set 1 (by simp) c).set 2 (by simp) e).set 3 (by simp) f).set 4 (by simp) g
theorem VN.of_block {w w' : World} {b : Nat} {xs : List Value} (h : VN w b xs) (e : w'.heap[b]? = w.heap[b]?) (hs : w.heap.size ≤ w'.heap.size) : VN w' b xs :=
  ⟨Nat.lt_of_lt_of_le h.lt hs, fun j v hv => (World.cell?_of_block e).trans (h.c j v hv), fun i => (frozen_of_block e i).trans (h.z i), fun i hi => (World.cell?_of_block e).trans (h.top i hi)⟩
structure Only (kb : Nat) (wx wz : World) : Prop where
  os : wz.os = wx.os
  tape : wz.tape = wx.tape
  output : wz.output = wx.output
  size : wz.heap.size = wx.heap.size
  block : ∀ q, q ≠ kb → wz.heap[q]? = wx.heap[q]?
theorem Only.refl (kb : Nat) (wx : World) : Only kb wx wx := ⟨rfl, rfl, rfl, rfl, fun _ _ => rfl⟩
theorem Only.set {kb : Nat} {wx wz : World} (h : Only kb wx wz) (i : Nat) (u : Value) : Only kb wx (wz.setCell ⟨kb, i, none⟩ u) :=
  ⟨h.os, h.tape, h.output, (size_setCell _ _ _).trans h.size, fun q hq => (Below.heap_setCell _ _ _ _ hq).trans (h.block q hq)⟩
theorem Only.set5 (kb : Nat) (wx : World) (a b c e f : Value) : Only kb wx (((((wx.setCell ⟨kb, 0, none⟩ a).setCell ⟨kb, 1, none⟩ b).setCell ⟨kb, 2, none⟩ c).setCell ⟨kb, 3, none⟩ e).setCell ⟨kb, 4, none⟩ f) :=
  (((((Only.refl kb wx).set 0 a).set 1 b).set 2 c).set 3 e).set 4 f
theorem Only.bel {kb B : Nat} {w0 wx wz : World} (h : Only kb wx wz) (hb : Below B w0 wx) (hk : B ≤ kb) : Below B w0 wz :=
  ⟨h.os.trans hb.os, h.tape.trans hb.tape, h.output.trans hb.output, by rw [h.size]; exact hb.size, fun q hq => (h.block q (by omega)).trans (hb.block q hq)⟩
theorem BelRel.put {w w4 wx wz : World} {k p n0 : Nat} {nd : List Value} {kb : Nat} {kv tv iv : Value} {key nx : By} {li : List It}
    (hz : Only kb wx wz) (hv : VN wz kb [.int .i64 (p : Int), .int .i64 (k : Int), kv, tv, iv]) (nb : VN w4 w.heap.size nd) (rb : VN w4 (w.heap.size + 1) [.int .i64 0, .int .i64 0, .slice none 0 0, .slice none 0 0, .slice none 0 0]) (hk : RdF w F kv key) (ht : RdF w F tv nx) (hkr : KR0 w4 (fun q => q < n0) n0 iv li) (hn0 : w.heap.size + 2 ≤ n0) (hkb : w.heap.size + 2 ≤ kb) (hc : kb < n0 ∨ w4.heap.size ≤ kb)
    (hb4 : Below w.heap.size w w4) (hx : Below w4.heap.size w4 wx) :
    BelRel w wz F k p nd kb kv tv iv key nx li := by
  have hxs := hx.size
  have hzs := hz.size
  refine ⟨hv, ?_, ?_, hk, ht, ?_, hz.bel (hb4.trans (hx.mono hb4.size)) (by omega)⟩
  · exact (nb.bel hx).of_block (hz.block _ (by omega)) (by omega)
  · exact (rb.bel hx).of_block (hz.block _ (by omega)) (by omega)
  · refine (hkr.low (by omega)).kf ⟨⟨hz.os.trans hx.os, hz.tape.trans hx.tape, hz.output.trans hx.output, by omega, fun q hq hf => ?_⟩, fun q _ h => Nat.lt_of_lt_of_le h hn0⟩
    have hf : ¬ q < n0 := hf
    exact (hz.block q (by omega)).trans (hx.block q hq)
set_option maxHeartbeats 16000000 in
theorem below_any (bo : Bo B W w sb db y yd s d m) {li : List It} {i p k : Nat} {l' : Its k} (q0 : Int) {k1 : Int} (hk1 : k1 = (k : Int) + 1) {A1 A2 : Option Addr} {n1 c1 c2 : Nat} {hi : By} (h : KR w F N v li) (h2 : RdF w F (.slice A2 hi.length c2) hi) (his : isum li ≤ 1000000000) (hi' : i < li.length)
    (hrest : li[i].2 = be2 p) (hp65 : p < 65536) (hpo : PageOk s d p (told k l')) (hk : k + 1 < 256) (hr : Right k li[i].1 (nxt hi (li.drop (i + 1))) l') (hs : nsz l' ≤ 4011) :
    Calls Tryz.prog 59 #[pt sb, .agg #[.int .i64 q0, .int .i64 k1, .slice A1 n1 c1, .slice A2 hi.length c2, v], .int .i64 (i : Int)] w fun e w' =>
      ∃ Ak ck At ct nt v', e = .returned (.agg #[.int .i64 (p : Int), .int .i64 (k : Int), .slice Ak li[i].1.length ck, .slice At nt ct, v']) ∧ RdF w F (.slice Ak li[i].1.length ck) li[i].1 ∧ RdF w F (.slice At nt ct) (nxt hi (li.drop (i + 1))) ∧ KR0 w' (fun q => q < w.heap.size) w.heap.size v' (its l') ∧ Below w.heap.size w w' := by
  obtain ⟨A, c, rfl, _, _⟩ := h.form
  have hlen : li.length ≤ 1000000000 := by have := len_le_isum li; omega
  have BO := Lib.hid bo
  have HPO := Lib.hid hpo
  have HK := Lib.hid (show k < 256 by omega)
  have HR := Lib.hid hr
  have HS := Lib.hid hs
  have HIS := Lib.hid his
  have HK1 := Lib.hid hk1
  clear hk1
  obtain ⟨W0, hW0⟩ : ∃ X, X = (w.alloc (.cells #[.int .i64 q0, .int .i64 k1, .slice A1 n1 c1, .slice A2 hi.length c2, .slice A li.length c] 75)).alloc (.cells #[.int .i64 0, .int .i64 0, .slice none 0 0, .slice none 0 0, .slice none 0 0] 75) := ⟨_, rfl⟩
  have B0 := Lib.hid (show Below w.heap.size w W0 from hW0 ▸ (box1 w _).alloc (by simp) _)
  have NB0 := Lib.hid (show VN W0 w.heap.size [.int .i64 q0, .int .i64 k1, .slice A1 n1 c1, .slice A2 hi.length c2, .slice A li.length c] from hW0 ▸ (VN.new w _ _).alloc _)
  have RB0 := Lib.hid (show VN W0 (w.heap.size + 1) [.int .i64 0, .int .i64 0, .slice none 0 0, .slice none 0 0, .slice none 0 0] from by
    have := VN.new (w.alloc (.cells #[.int .i64 q0, .int .i64 k1, .slice A1 n1 c1, .slice A2 hi.length c2, .slice A li.length c] 75)) #[.int .i64 0, .int .i64 0, .slice none 0 0, .slice none 0 0, .slice none 0 0] 75
    rw [hW0]; simpa using this)
  have hs0 : W0.heap.size = w.heap.size + 2 := by rw [hW0]; simp
  have HS0 := Lib.hid hs0
  obtain ⟨b, o, Ak0, ck0, Ar, cr, qq, rfl, -, g2, -, -, -, -, r2⟩ := h.at hi'
  have g2 := cell_bel B0.out g2
  have hrl : li[i].2.length = 2 := by rw [hrest]; rfl
  rw [hrl] at g2 r2
  rw [hrest] at r2
  have H := Lib.hid h
  have H2 := Lib.hid h2
  have RST0 := Lib.hid r2
  have HW0 := Lib.hid hW0
  have hii : (i : Int) < (li.length : Int) := by omega
  clear bo hpo hk hr hs h h2 hW0 r2 hrest hs0 hrl
  go_enter Tryz.func59, Tryz.ntmps59
  go_wp2_with fail
  rw [← HW0.out]
  go_cut [7] from 8 (fun vz wz => ∃ kb Ak ck At ct nt A4 c4, vz = .pointer (some ⟨kb, 0, none⟩) ∧ Hid (BelRel w wz F k p [.int .i64 q0, .int .i64 k1, .slice A1 n1 c1, .slice A2 hi.length c2, .slice (some ⟨b, o, none⟩) li.length c] kb (.slice Ak li[i].1.length ck) (.slice At nt ct) (.slice A4 (its l').length c4) li[i].1 (nxt hi (li.drop (i + 1))) (its l')))
  case first =>
    obtain ⟨V, hV⟩ : ∃ X, X = W0 := ⟨_, rfl⟩
    have BV := Lib.hid (show Below w.heap.size w V from hV ▸ B0.out)
    have NB := Lib.hid (show VN V w.heap.size _ from hV ▸ NB0.out)
    have RB := Lib.hid (show VN V (w.heap.size + 1) _ from hV ▸ RB0.out)
    have HVS := Lib.hid (show V.heap.size = w.heap.size + 2 from hV ▸ HS0.out)
    have g2V : V.cell? ⟨b, o + i * 3 + 1, none⟩ = some (.slice Ar 2 cr) := hV ▸ g2
    have HF := Lib.hid (fun X (hX : Below V.heap.size V X) => (⟨cell_bel hX (NB.out.c 0 _ rfl), cell_bel hX (NB.out.c 1 _ rfl), cell_bel hX (NB.out.c 2 _ rfl), cell_bel hX (NB.out.c 3 _ rfl), cell_bel hX (NB.out.c 4 _ rfl), cell_bel hX g2V⟩ : _ ∧ _ ∧ _ ∧ _ ∧ _ ∧ _))
    have RST := Lib.hid (RST0.out.bel BV.out)
    have KV := Lib.hid (H.out.kf (kfb BV.out))
    have HIV := Lib.hid (H2.out.bel BV.out)
    rw [← hV]
    clear hV g2V g2
    refine wp_region_held_drew (S := fun X => Below V.heap.size V X) (by kernel_rfl) ((Below.refl _ _).drew) (fun hHeld => ?_)
    refine wpAnyH_take (i := 0) (v := ?_) rfl (by kernel_rfl) (by kernel_rfl) (by kernel_rfl) (fun _ _ _ h => h) (Or.inl ⟨by rfl, ?_⟩) (by assumption) ?_
    rotate_left 1
    · intro wS hSw; obtain ⟨f0, f1, f2, f3, f4, f5⟩ := HF.out wS hSw; go_simp; try (with_reducible rfl)
    try simp only [Act.put, List.getElem_toArray, List.getElem_cons_zero, List.getElem_cons_succ, List.setIfInBounds_toArray, List.set_cons_zero, List.set_cons_succ]
    refine wpAnyH_take (i := 1) (v := ?_) rfl (by kernel_rfl) (by kernel_rfl) (by kernel_rfl) (fun _ _ _ h => h) (Or.inl ⟨by rfl, ?_⟩) (by assumption) ?_
    rotate_left 1
    · intro wS hSw; obtain ⟨f0, f1, f2, f3, f4, f5⟩ := HF.out wS hSw; go_simp; try (with_reducible rfl)
    try simp only [Act.put, List.getElem_toArray, List.getElem_cons_zero, List.getElem_cons_succ, List.setIfInBounds_toArray, List.set_cons_zero, List.set_cons_succ]
    refine wpAnyH_take (i := 2) (v := ?_) rfl (by kernel_rfl) (by kernel_rfl) (by kernel_rfl) (fun _ _ _ h => h) (Or.inl ⟨by rfl, ?_⟩) (by assumption) ?_
    rotate_left 1
    · intro wS hSw; obtain ⟨f0, f1, f2, f3, f4, f5⟩ := HF.out wS hSw; go_simp; try (with_reducible rfl)
    try simp only [Act.put, List.getElem_toArray, List.getElem_cons_zero, List.getElem_cons_succ, List.setIfInBounds_toArray, List.set_cons_zero, List.set_cons_succ]
    refine wpAnyH_take (i := 3) (v := ?_) rfl (by kernel_rfl) (by kernel_rfl) (by kernel_rfl) (fun _ _ _ h => h) (Or.inl ⟨by rfl, ?_⟩) (by assumption) ?_
    rotate_left 1
    · intro wS hSw; obtain ⟨f0, f1, f2, f3, f4, f5⟩ := HF.out wS hSw; go_simp; try (with_reducible rfl)
    try simp only [Act.put, List.getElem_toArray, List.getElem_cons_zero, List.getElem_cons_succ, List.setIfInBounds_toArray, List.set_cons_zero, List.set_cons_succ]
    refine wpAnyH_take (i := 4) (v := ?_) rfl (by kernel_rfl) (by kernel_rfl) (by kernel_rfl) (fun _ _ _ h => h) (Or.inl ⟨by rfl, ?_⟩) (by assumption) ?_
    rotate_left 1
    · intro wS hSw; obtain ⟨f0, f1, f2, f3, f4, f5⟩ := HF.out wS hSw; go_simp; try (with_reducible rfl)
    try simp only [Act.put, List.getElem_toArray, List.getElem_cons_zero, List.getElem_cons_succ, List.setIfInBounds_toArray, List.set_cons_zero, List.set_cons_succ]
    refine wpAnyH_take (i := 5) (v := ?_) rfl (by kernel_rfl) (by kernel_rfl) (by kernel_rfl) (fun _ _ _ h => h) (Or.inl ⟨by rfl, ?_⟩) (by assumption) ?_
    rotate_left 1
    · intro wS hSw; obtain ⟨f0, f1, f2, f3, f4, f5⟩ := HF.out wS hSw; go_simp; try (with_reducible rfl)
    try simp only [Act.put, List.getElem_toArray, List.getElem_cons_zero, List.getElem_cons_succ, List.setIfInBounds_toArray, List.set_cons_zero, List.set_cons_succ]
    refine wpAnyH_take (i := 6) (v := ?_) rfl (by kernel_rfl) (by kernel_rfl) (by kernel_rfl) (fun _ _ _ h => h) (Or.inl ⟨by rfl, ?_⟩) (by assumption) ?_
    rotate_left 1
    · intro wS hSw; obtain ⟨f0, f1, f2, f3, f4, f5⟩ := HF.out wS hSw; go_simp; try (with_reducible rfl)
    try simp only [Act.put, List.getElem_toArray, List.getElem_cons_zero, List.getElem_cons_succ, List.setIfInBounds_toArray, List.set_cons_zero, List.set_cons_succ]
    refine wpAnyH_take (i := 8) (v := ?_) rfl (by kernel_rfl) (by kernel_rfl) (by kernel_rfl) (fun _ _ _ h => h) (Or.inl ⟨by rfl, ?_⟩) (by assumption) ?_
    rotate_left 1
    · intro wS hSw; obtain ⟨f0, f1, f2, f3, f4, f5⟩ := HF.out wS hSw; go_simp; try (with_reducible rfl)
    try simp only [Act.put, List.getElem_toArray, List.getElem_cons_zero, List.getElem_cons_succ, List.setIfInBounds_toArray, List.set_cons_zero, List.set_cons_succ]
    refine wpAnyH_take (i := 9) (v := ?_) rfl (by kernel_rfl) (by kernel_rfl) (by kernel_rfl) (fun _ _ _ h => h) (Or.inl ⟨by rfl, ?_⟩) (by assumption) ?_
    rotate_left 1
    · intro wS hSw; obtain ⟨f0, f1, f2, f3, f4, f5⟩ := HF.out wS hSw; go_simp; try (with_reducible rfl)
    try simp only [Act.put, List.getElem_toArray, List.getElem_cons_zero, List.getElem_cons_succ, List.setIfInBounds_toArray, List.set_cons_zero, List.set_cons_succ]
    refine wpAnyH_ready (rs := [7, 12]) (by kernel_rfl) (by simp) ?_
    refine AllReadyH.cons rfl (fun K hK => ?_) (AllReadyH.cons rfl (fun K hK => ?_) AllReadyH.nil)
    · skip
      go_simp
      refine (number_at RST.out hHeld hp65).mono ?_
      rintro e V.drew0 ⟨rfl, h1, h2⟩
      have hn := h1
      clear h1 h2 hHeld
      go_wp2_with fail
      refine hK.out _ _ hn (fun hHeld => ?_)
      clear hK K
      try simp only [Act.put, List.getElem_toArray, List.getElem_cons_zero, List.getElem_cons_succ, List.setIfInBounds_toArray, List.set_cons_zero, List.set_cons_succ]
      refine wpAnyH_ready (rs := [10, 12]) (by kernel_rfl) (by simp) ?_
      refine AllReadyH.cons rfl (fun K hK => ?_) (AllReadyH.cons rfl (fun K hK => ?_) AllReadyH.nil)
      · skip
        go_simp
        refine (span_any q0 k1 A1 A2 n1 c1 c2 H.out (BV.out.trans (hHeld.mono BV.out.size)) HIS.out H2.out hi').mono ?_
        rintro e V.drew01 ⟨Ak, ck, At, ct, nt, rfl, h3, h4, h2⟩
        have hn := hHeld.trans (h2.mono hHeld.size)
        have RK := Lib.hid h3
        have RT := Lib.hid h4
        clear h3 h4
        clear h2 hHeld
        go_wp2_with fail
        refine hK.out _ _ hn (fun hHeld => ?_)
        clear hK K
        try simp only [Act.put, List.getElem_toArray, List.getElem_cons_zero, List.getElem_cons_succ, List.setIfInBounds_toArray, List.set_cons_zero, List.set_cons_succ]
        refine wpAnyH_ready (rs := [11, 12]) (by kernel_rfl) (by simp) ?_
        refine AllReadyH.cons rfl (fun K hK => ?_) (AllReadyH.cons rfl (fun K hK => ?_) AllReadyH.nil)
        · skip
          go_simp
          have hnt : nt = (nxt hi (li.drop (i + 1))).length := by obtain ⟨_, _, e, _⟩ := RT.out; injection e
          subst hnt
          have HBC := Lib.hid ((BV.out.trans (hHeld.mono BV.out.size)))
          have HLE := Lib.hid (Nat.le_trans (Nat.le_of_eq HVS.out.symm) hHeld.size)
          refine (read_any (BO.out.keep HBC.out) HPO.out HK.out HR.out HS.out (RK.out.bel HBC.out) (RT.out.bel HBC.out)).mono ?_
          rintro e V.drew012 ⟨v4, rfl, hkr, h2⟩
          obtain ⟨A4, c4, rfl, -, -⟩ := hkr.kr.form
          have hn := hHeld.trans (h2.mono hHeld.size)
          have KR4 := Lib.hid hkr
          have BR := Lib.hid h2
          have HW4 := Lib.hid hn
          clear hkr
          clear h2 hHeld
          go_wp2_with fail
          refine hK.out _ _ hn (fun hHeld => ?_)
          clear hK K
          try simp only [Act.put, List.getElem_toArray, List.getElem_cons_zero, List.getElem_cons_succ, List.setIfInBounds_toArray, List.set_cons_zero, List.set_cons_succ]
          refine wpAnyH_ready (rs := [12]) (by kernel_rfl) (by simp) ?_
          refine AllReadyH.cons rfl (fun K hK => ?_) AllReadyH.nil
          go_simp
          obtain ⟨V.drew012a, hV.drew012a⟩ : ∃ X, X = (World.alloc V.drew012 (.cells #[.int .i64 0, .int .i64 0, .slice none 0 0, .slice none 0 0, .slice none 0 0] 75)) := ⟨_, rfl⟩
          have h2 : Below (V.drew012).heap.size (V.drew012) V.drew012a := hV.drew012a ▸ box1 _ _
          have VK := Lib.hid (show VN V.drew012a V.drew012.heap.size [.int .i64 0, .int .i64 0, .slice none 0 0, .slice none 0 0, .slice none 0 0] from hV.drew012a ▸ VN.new _ _ _)
          have hn := hHeld.trans (h2.mono hHeld.size)
          have HKB := Lib.hid (Nat.le_trans (Nat.le_of_eq HVS.out.symm) hHeld.size)
          have HX4 := Lib.hid h2
          have HCC := Lib.hid (show V.drew012.heap.size < V.drew01.heap.size ∨ V.drew012.heap.size ≤ V.drew012.heap.size from Or.inr (Nat.le_refl _))
          rw [← hV.drew012a]
          clear h2 hHeld hV.drew012a
          refine hK.out _ _ hn (fun hHeld => ?_)
          clear hK K
          try simp only [Act.put, List.getElem_toArray, List.getElem_cons_zero, List.getElem_cons_succ, List.setIfInBounds_toArray, List.set_cons_zero, List.set_cons_succ]
          refine wpAnyH_ready (rs := [13]) (by kernel_rfl) (by simp) ?_
          refine AllReadyH.cons rfl (fun K hK => ?_) AllReadyH.nil
          have a0 := VK.out.c 0 _ rfl
          have a1 := VK.out.c 1 _ rfl
          have a2 := VK.out.c 2 _ rfl
          have a3 := VK.out.c 3 _ rfl
          have a4 := VK.out.c 4 _ rfl
          have z0 := VK.out.z 0
          have z1 := VK.out.z 1
          have z2 := VK.out.z 2
          have z3 := VK.out.z 3
          have z4 := VK.out.z 4
          go_simp
          have hO := Only.set5 (V.drew012.heap.size) V.drew012a (.int .i64 (p : Int)) (.int .i64 (k : Int)) (.slice Ak li[i].1.length ck) (.slice At (nxt hi (li.drop (i + 1))).length ct) (.slice A4 (its l').length c4)
          have hn := hO.bel hHeld (by have := HKB.out; have := HVS.out; omega)
          have BRel := Lib.hid (BelRel.put (F := F) (key := li[i].1) (nx := nxt hi (li.drop (i + 1))) (nd := [.int .i64 q0, .int .i64 k1, .slice A1 n1 c1, .slice A2 hi.length c2, .slice (some ⟨b, o, none⟩) li.length c]) hO (VK.out.set5 _ _ _ _ _) (NB.out.bel HW4.out) (RB.out.bel HW4.out) RK.out RT.out KR4.out HLE.out HKB.out HCC.out (BV.out.trans (HW4.out.mono BV.out.size)) HX4.out)
          clear hO hHeld a0 a1 a2 a3 a4 z0 z1 z2 z3 z4
          refine hK.out _ _ hn (fun hHeld => ?_)
          clear hK K
          try simp only [Act.put, List.getElem_toArray, List.getElem_cons_zero, List.getElem_cons_succ, List.setIfInBounds_toArray, List.set_cons_zero, List.set_cons_succ]
          refine wpAnyH_done (by kernel_rfl) ?_ _
          go_wp2_with fail
          go_meet
          case rel => exact ⟨V.drew012.heap.size, Ak, ck, At, ct, _, A4, c4, rfl, BRel⟩
        · skip
          go_simp
          obtain ⟨V.drew01a, hV.drew01a⟩ : ∃ X, X = (World.alloc V.drew01 (.cells #[.int .i64 0, .int .i64 0, .slice none 0 0, .slice none 0 0, .slice none 0 0] 75)) := ⟨_, rfl⟩
          have h2 : Below (V.drew01).heap.size (V.drew01) V.drew01a := hV.drew01a ▸ box1 _ _
          have VK := Lib.hid (show VN V.drew01a V.drew01.heap.size [.int .i64 0, .int .i64 0, .slice none 0 0, .slice none 0 0, .slice none 0 0] from hV.drew01a ▸ VN.new _ _ _)
          have hn := hHeld.trans (h2.mono hHeld.size)
          have HKB := Lib.hid (Nat.le_trans (Nat.le_of_eq HVS.out.symm) hHeld.size)
          rw [← hV.drew01a]
          clear h2 hHeld hV.drew01a
          refine hK.out _ _ hn (fun hHeld => ?_)
          clear hK K
          try simp only [Act.put, List.getElem_toArray, List.getElem_cons_zero, List.getElem_cons_succ, List.setIfInBounds_toArray, List.set_cons_zero, List.set_cons_succ]
          refine wpAnyH_ready (rs := [11]) (by kernel_rfl) (by simp) ?_
          refine AllReadyH.cons rfl (fun K hK => ?_) AllReadyH.nil
          go_simp
          have hnt : nt = (nxt hi (li.drop (i + 1))).length := by obtain ⟨_, _, e, _⟩ := RT.out; injection e
          subst hnt
          have HBC := Lib.hid ((BV.out.trans (hHeld.mono BV.out.size)))
          have HLE := Lib.hid (Nat.le_trans (Nat.le_of_eq HVS.out.symm) hHeld.size)
          refine (read_any (BO.out.keep HBC.out) HPO.out HK.out HR.out HS.out (RK.out.bel HBC.out) (RT.out.bel HBC.out)).mono ?_
          rintro e V.drew01a2 ⟨v4, rfl, hkr, h2⟩
          obtain ⟨A4, c4, rfl, -, -⟩ := hkr.kr.form
          have hn := hHeld.trans (h2.mono hHeld.size)
          have KR4 := Lib.hid hkr
          have BR := Lib.hid h2
          have HW4 := Lib.hid hn
          clear hkr
          have HCC := Lib.hid (show V.drew01.heap.size < V.drew01a.heap.size ∨ V.drew01a2.heap.size ≤ V.drew01.heap.size from Or.inl VK.out.lt)
          have HX4 := Lib.hid (Below.refl V.drew01a2.heap.size V.drew01a2)
          have VK := Lib.hid (VK.out.bel h2)
          clear h2 hHeld
          go_wp2_with fail
          refine hK.out _ _ hn (fun hHeld => ?_)
          clear hK K
          try simp only [Act.put, List.getElem_toArray, List.getElem_cons_zero, List.getElem_cons_succ, List.setIfInBounds_toArray, List.set_cons_zero, List.set_cons_succ]
          refine wpAnyH_ready (rs := [13]) (by kernel_rfl) (by simp) ?_
          refine AllReadyH.cons rfl (fun K hK => ?_) AllReadyH.nil
          have a0 := VK.out.c 0 _ rfl
          have a1 := VK.out.c 1 _ rfl
          have a2 := VK.out.c 2 _ rfl
          have a3 := VK.out.c 3 _ rfl
          have a4 := VK.out.c 4 _ rfl
          have z0 := VK.out.z 0
          have z1 := VK.out.z 1
          have z2 := VK.out.z 2
          have z3 := VK.out.z 3
          have z4 := VK.out.z 4
          go_simp
          have hO := Only.set5 (V.drew01.heap.size) V.drew01a2 (.int .i64 (p : Int)) (.int .i64 (k : Int)) (.slice Ak li[i].1.length ck) (.slice At (nxt hi (li.drop (i + 1))).length ct) (.slice A4 (its l').length c4)
          have hn := hO.bel hHeld (by have := HKB.out; have := HVS.out; omega)
          have BRel := Lib.hid (BelRel.put (F := F) (key := li[i].1) (nx := nxt hi (li.drop (i + 1))) (nd := [.int .i64 q0, .int .i64 k1, .slice A1 n1 c1, .slice A2 hi.length c2, .slice (some ⟨b, o, none⟩) li.length c]) hO (VK.out.set5 _ _ _ _ _) (NB.out.bel HW4.out) (RB.out.bel HW4.out) RK.out RT.out KR4.out HLE.out HKB.out HCC.out (BV.out.trans (HW4.out.mono BV.out.size)) HX4.out)
          clear hO hHeld a0 a1 a2 a3 a4 z0 z1 z2 z3 z4
          refine hK.out _ _ hn (fun hHeld => ?_)
          clear hK K
          try simp only [Act.put, List.getElem_toArray, List.getElem_cons_zero, List.getElem_cons_succ, List.setIfInBounds_toArray, List.set_cons_zero, List.set_cons_succ]
          refine wpAnyH_done (by kernel_rfl) ?_ _
          go_wp2_with fail
          go_meet
          case rel => exact ⟨V.drew01.heap.size, Ak, ck, At, ct, _, A4, c4, rfl, BRel⟩
      · skip
        go_simp
        obtain ⟨V.drew0a, hV.drew0a⟩ : ∃ X, X = (World.alloc V.drew0 (.cells #[.int .i64 0, .int .i64 0, .slice none 0 0, .slice none 0 0, .slice none 0 0] 75)) := ⟨_, rfl⟩
        have h2 : Below (V.drew0).heap.size (V.drew0) V.drew0a := hV.drew0a ▸ box1 _ _
        have VK := Lib.hid (show VN V.drew0a V.drew0.heap.size [.int .i64 0, .int .i64 0, .slice none 0 0, .slice none 0 0, .slice none 0 0] from hV.drew0a ▸ VN.new _ _ _)
        have hn := hHeld.trans (h2.mono hHeld.size)
        have HKB := Lib.hid (Nat.le_trans (Nat.le_of_eq HVS.out.symm) hHeld.size)
        rw [← hV.drew0a]
        clear h2 hHeld hV.drew0a
        refine hK.out _ _ hn (fun hHeld => ?_)
        clear hK K
        try simp only [Act.put, List.getElem_toArray, List.getElem_cons_zero, List.getElem_cons_succ, List.setIfInBounds_toArray, List.set_cons_zero, List.set_cons_succ]
        refine wpAnyH_ready (rs := [10]) (by kernel_rfl) (by simp) ?_
        refine AllReadyH.cons rfl (fun K hK => ?_) AllReadyH.nil
        go_simp
        refine (span_any q0 k1 A1 A2 n1 c1 c2 H.out (BV.out.trans (hHeld.mono BV.out.size)) HIS.out H2.out hi').mono ?_
        rintro e V.drew0a1 ⟨Ak, ck, At, ct, nt, rfl, h3, h4, h2⟩
        have hn := hHeld.trans (h2.mono hHeld.size)
        have RK := Lib.hid h3
        have RT := Lib.hid h4
        clear h3 h4
        have VK := Lib.hid (VK.out.bel h2)
        clear h2 hHeld
        go_wp2_with fail
        refine hK.out _ _ hn (fun hHeld => ?_)
        clear hK K
        try simp only [Act.put, List.getElem_toArray, List.getElem_cons_zero, List.getElem_cons_succ, List.setIfInBounds_toArray, List.set_cons_zero, List.set_cons_succ]
        refine wpAnyH_ready (rs := [11]) (by kernel_rfl) (by simp) ?_
        refine AllReadyH.cons rfl (fun K hK => ?_) AllReadyH.nil
        go_simp
        have hnt : nt = (nxt hi (li.drop (i + 1))).length := by obtain ⟨_, _, e, _⟩ := RT.out; injection e
        subst hnt
        have HBC := Lib.hid ((BV.out.trans (hHeld.mono BV.out.size)))
        have HLE := Lib.hid (Nat.le_trans (Nat.le_of_eq HVS.out.symm) hHeld.size)
        refine (read_any (BO.out.keep HBC.out) HPO.out HK.out HR.out HS.out (RK.out.bel HBC.out) (RT.out.bel HBC.out)).mono ?_
        rintro e V.drew0a12 ⟨v4, rfl, hkr, h2⟩
        obtain ⟨A4, c4, rfl, -, -⟩ := hkr.kr.form
        have hn := hHeld.trans (h2.mono hHeld.size)
        have KR4 := Lib.hid hkr
        have BR := Lib.hid h2
        have HW4 := Lib.hid hn
        clear hkr
        have HCC := Lib.hid (show V.drew0.heap.size < V.drew0a1.heap.size ∨ V.drew0a12.heap.size ≤ V.drew0.heap.size from Or.inl VK.out.lt)
        have HX4 := Lib.hid (Below.refl V.drew0a12.heap.size V.drew0a12)
        have VK := Lib.hid (VK.out.bel h2)
        clear h2 hHeld
        go_wp2_with fail
        refine hK.out _ _ hn (fun hHeld => ?_)
        clear hK K
        try simp only [Act.put, List.getElem_toArray, List.getElem_cons_zero, List.getElem_cons_succ, List.setIfInBounds_toArray, List.set_cons_zero, List.set_cons_succ]
        refine wpAnyH_ready (rs := [13]) (by kernel_rfl) (by simp) ?_
        refine AllReadyH.cons rfl (fun K hK => ?_) AllReadyH.nil
        have a0 := VK.out.c 0 _ rfl
        have a1 := VK.out.c 1 _ rfl
        have a2 := VK.out.c 2 _ rfl
        have a3 := VK.out.c 3 _ rfl
        have a4 := VK.out.c 4 _ rfl
        have z0 := VK.out.z 0
        have z1 := VK.out.z 1
        have z2 := VK.out.z 2
        have z3 := VK.out.z 3
        have z4 := VK.out.z 4
        go_simp
        have hO := Only.set5 (V.drew0.heap.size) V.drew0a12 (.int .i64 (p : Int)) (.int .i64 (k : Int)) (.slice Ak li[i].1.length ck) (.slice At (nxt hi (li.drop (i + 1))).length ct) (.slice A4 (its l').length c4)
        have hn := hO.bel hHeld (by have := HKB.out; have := HVS.out; omega)
        have BRel := Lib.hid (BelRel.put (F := F) (key := li[i].1) (nx := nxt hi (li.drop (i + 1))) (nd := [.int .i64 q0, .int .i64 k1, .slice A1 n1 c1, .slice A2 hi.length c2, .slice (some ⟨b, o, none⟩) li.length c]) hO (VK.out.set5 _ _ _ _ _) (NB.out.bel HW4.out) (RB.out.bel HW4.out) RK.out RT.out KR4.out HLE.out HKB.out HCC.out (BV.out.trans (HW4.out.mono BV.out.size)) HX4.out)
        clear hO hHeld a0 a1 a2 a3 a4 z0 z1 z2 z3 z4
        refine hK.out _ _ hn (fun hHeld => ?_)
        clear hK K
        try simp only [Act.put, List.getElem_toArray, List.getElem_cons_zero, List.getElem_cons_succ, List.setIfInBounds_toArray, List.set_cons_zero, List.set_cons_succ]
        refine wpAnyH_done (by kernel_rfl) ?_ _
        go_wp2_with fail
        go_meet
        case rel => exact ⟨V.drew0.heap.size, Ak, ck, At, ct, _, A4, c4, rfl, BRel⟩
    · skip
      go_simp
      obtain ⟨Va, hVa⟩ : ∃ X, X = (World.alloc V (.cells #[.int .i64 0, .int .i64 0, .slice none 0 0, .slice none 0 0, .slice none 0 0] 75)).drew := ⟨_, rfl⟩
      have h2 : Below (V.drew).heap.size (V.drew) Va := hVa ▸ (have h := (box1 V (.cells #[.int .i64 0, .int .i64 0, .slice none 0 0, .slice none 0 0, .slice none 0 0] 75)).drew; ⟨h.os, h.tape, h.output, h.size, h.block⟩)
      have VK := Lib.hid (show VN Va V.heap.size [.int .i64 0, .int .i64 0, .slice none 0 0, .slice none 0 0, .slice none 0 0] from hVa ▸ (VN.new _ _ _).drew)
      have hn := hHeld.trans (h2.mono hHeld.size)
      have HKB := Lib.hid (Nat.le_trans (Nat.le_of_eq HVS.out.symm) hHeld.size)
      rw [← hVa]
      clear h2 hHeld hVa
      refine hK.out _ _ hn (fun hHeld => ?_)
      clear hK K
      try simp only [Act.put, List.getElem_toArray, List.getElem_cons_zero, List.getElem_cons_succ, List.setIfInBounds_toArray, List.set_cons_zero, List.set_cons_succ]
      refine wpAnyH_ready (rs := [7]) (by kernel_rfl) (by simp) ?_
      refine AllReadyH.cons rfl (fun K hK => ?_) AllReadyH.nil
      go_simp
      refine (number_at RST.out hHeld hp65).mono ?_
      rintro e Va0 ⟨rfl, h1, h2⟩
      have hn := h1
      have VK := Lib.hid (VK.out.bel h2)
      clear h1 h2 hHeld
      go_wp2_with fail
      refine hK.out _ _ hn (fun hHeld => ?_)
      clear hK K
      try simp only [Act.put, List.getElem_toArray, List.getElem_cons_zero, List.getElem_cons_succ, List.setIfInBounds_toArray, List.set_cons_zero, List.set_cons_succ]
      refine wpAnyH_ready (rs := [10]) (by kernel_rfl) (by simp) ?_
      refine AllReadyH.cons rfl (fun K hK => ?_) AllReadyH.nil
      go_simp
      refine (span_any q0 k1 A1 A2 n1 c1 c2 H.out (BV.out.trans (hHeld.mono BV.out.size)) HIS.out H2.out hi').mono ?_
      rintro e Va01 ⟨Ak, ck, At, ct, nt, rfl, h3, h4, h2⟩
      have hn := hHeld.trans (h2.mono hHeld.size)
      have RK := Lib.hid h3
      have RT := Lib.hid h4
      clear h3 h4
      have VK := Lib.hid (VK.out.bel h2)
      clear h2 hHeld
      go_wp2_with fail
      refine hK.out _ _ hn (fun hHeld => ?_)
      clear hK K
      try simp only [Act.put, List.getElem_toArray, List.getElem_cons_zero, List.getElem_cons_succ, List.setIfInBounds_toArray, List.set_cons_zero, List.set_cons_succ]
      refine wpAnyH_ready (rs := [11]) (by kernel_rfl) (by simp) ?_
      refine AllReadyH.cons rfl (fun K hK => ?_) AllReadyH.nil
      go_simp
      have hnt : nt = (nxt hi (li.drop (i + 1))).length := by obtain ⟨_, _, e, _⟩ := RT.out; injection e
      subst hnt
      have HBC := Lib.hid ((BV.out.trans (hHeld.mono BV.out.size)))
      have HLE := Lib.hid (Nat.le_trans (Nat.le_of_eq HVS.out.symm) hHeld.size)
      refine (read_any (BO.out.keep HBC.out) HPO.out HK.out HR.out HS.out (RK.out.bel HBC.out) (RT.out.bel HBC.out)).mono ?_
      rintro e Va012 ⟨v4, rfl, hkr, h2⟩
      obtain ⟨A4, c4, rfl, -, -⟩ := hkr.kr.form
      have hn := hHeld.trans (h2.mono hHeld.size)
      have KR4 := Lib.hid hkr
      have BR := Lib.hid h2
      have HW4 := Lib.hid hn
      clear hkr
      have HCC := Lib.hid (show V.heap.size < Va01.heap.size ∨ Va012.heap.size ≤ V.heap.size from Or.inl VK.out.lt)
      have HX4 := Lib.hid (Below.refl Va012.heap.size Va012)
      have VK := Lib.hid (VK.out.bel h2)
      clear h2 hHeld
      go_wp2_with fail
      refine hK.out _ _ hn (fun hHeld => ?_)
      clear hK K
      try simp only [Act.put, List.getElem_toArray, List.getElem_cons_zero, List.getElem_cons_succ, List.setIfInBounds_toArray, List.set_cons_zero, List.set_cons_succ]
      refine wpAnyH_ready (rs := [13]) (by kernel_rfl) (by simp) ?_
      refine AllReadyH.cons rfl (fun K hK => ?_) AllReadyH.nil
      have a0 := VK.out.c 0 _ rfl
      have a1 := VK.out.c 1 _ rfl
      have a2 := VK.out.c 2 _ rfl
      have a3 := VK.out.c 3 _ rfl
      have a4 := VK.out.c 4 _ rfl
      have z0 := VK.out.z 0
      have z1 := VK.out.z 1
      have z2 := VK.out.z 2
      have z3 := VK.out.z 3
      have z4 := VK.out.z 4
      go_simp
      have hO := Only.set5 (V.heap.size) Va012 (.int .i64 (p : Int)) (.int .i64 (k : Int)) (.slice Ak li[i].1.length ck) (.slice At (nxt hi (li.drop (i + 1))).length ct) (.slice A4 (its l').length c4)
      have hn := hO.bel hHeld (by have := HKB.out; have := HVS.out; omega)
      have BRel := Lib.hid (BelRel.put (F := F) (key := li[i].1) (nx := nxt hi (li.drop (i + 1))) (nd := [.int .i64 q0, .int .i64 k1, .slice A1 n1 c1, .slice A2 hi.length c2, .slice (some ⟨b, o, none⟩) li.length c]) hO (VK.out.set5 _ _ _ _ _) (NB.out.bel HW4.out) (RB.out.bel HW4.out) RK.out RT.out KR4.out HLE.out HKB.out HCC.out (BV.out.trans (HW4.out.mono BV.out.size)) HX4.out)
      clear hO hHeld a0 a1 a2 a3 a4 z0 z1 z2 z3 z4
      refine hK.out _ _ hn (fun hHeld => ?_)
      clear hK K
      try simp only [Act.put, List.getElem_toArray, List.getElem_cons_zero, List.getElem_cons_succ, List.setIfInBounds_toArray, List.set_cons_zero, List.set_cons_succ]
      refine wpAnyH_done (by kernel_rfl) ?_ _
      go_wp2_with fail
      go_meet
      case rel => exact ⟨V.heap.size, Ak, ck, At, ct, _, A4, c4, rfl, BRel⟩
  case rest =>
    obtain ⟨kb, Ak, ck, At, ct, nt, A4, c4, rfl, hR⟩ := hcut
    have b0 := hR.out.vn.c 0 _ rfl
    have b1 := hR.out.vn.c 1 _ rfl
    have b2 := hR.out.vn.c 2 _ rfl
    have b3 := hR.out.vn.c 3 _ rfl
    have b4 := hR.out.vn.c 4 _ rfl
    have e1 := hR.out.nb.c 1 _ rfl
    have r0 := hR.out.rb.c 0 _ rfl
    have r1 := hR.out.rb.c 1 _ rfl
    have r2 := hR.out.rb.c 2 _ rfl
    have r3 := hR.out.rb.c 3 _ rfl
    have r4 := hR.out.rb.c 4 _ rfl
    have z0 := hR.out.rb.z 0
    have z1 := hR.out.rb.z 1
    have z2 := hR.out.rb.z 2
    have z3 := hR.out.rb.z 3
    have z4 := hR.out.rb.z 4
    have hkk : wrap64 (k1 - 1) = (k : Int) := by have := HK1.out; have := HK.out; unfold wrap64; omega
    have hkd : ((k : Int) != wrap64 (k1 - 1)) = false := by rw [hkk]; simp
    clear hkk
    go_wp2
    have Z := hR.out.rb.set5 (.int .i64 (p : Int)) (.int .i64 (k : Int)) (.slice Ak li[i].1.length ck) (.slice At nt ct) (.slice A4 (its l').length c4)
    refine bodyPost_ret (results_c rfl (w.heap.size + 1) [.int .i64 (p : Int), .int .i64 (k : Int), .slice Ak li[i].1.length ck, .slice At nt ct, .slice A4 (its l').length c4] _ rfl Z.range Tryz.underlying75 rfl info_node) rfl ?_
    have hO := Only.set5 (w.heap.size + 1) wc (.int .i64 (p : Int)) (.int .i64 (k : Int)) (.slice Ak li[i].1.length ck) (.slice At nt ct) (.slice A4 (its l').length c4)
    refine ⟨Ak, ck, At, ct, nt, _, rfl, hR.out.rk, hR.out.rt, hR.out.kr.kf ⟨⟨hO.os, hO.tape, hO.output, Nat.le_of_eq hO.size.symm, fun q _ hq => hO.block q (fun e => hq ?_)⟩, fun q _ h => ?_⟩, hO.bel hR.out.bel (by omega)⟩
    · show q < w.heap.size + 2; omega
    · have h : q < w.heap.size := h
      show q < w.heap.size + 2; omega
end
end Go.Proofs.YtcjokkjepgfinaaGreatDoor.Tr
