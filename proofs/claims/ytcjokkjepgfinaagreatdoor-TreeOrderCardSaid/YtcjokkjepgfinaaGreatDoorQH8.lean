import Derived.Test.YtcjokkjepgfinaaGreatDoorQH6
set_option linter.unusedVariables false
set_option linter.unusedSimpArgs false
namespace Go.Proofs.YtcjokkjepgfinaaGreatDoor.Tr
set_option maxRecDepth 8000
open Go.RowKit Mem Sk
open Dk (Fr)
structure VN (w : World) (b : Nat) (xs : List Value) : Prop where
  lt : b < w.heap.size
  c : ∀ j v, xs[j]? = some v → w.cell? ⟨b, j, none⟩ = some v
  z : ∀ i, w.frozen? ⟨b, i, none⟩ = false
  top : ∀ i, xs.length ≤ i → w.cell? ⟨b, i, none⟩ = none
section
variable {w w' : World} {b : Nat} {xs : List Value}
theorem VN.new (w : World) (cs : Array Value) (t : TypeId) : VN (w.alloc (.cells cs t)) w.heap.size cs.toList :=
  ⟨by simp, fun j v h => by rw [cell_of_row _ _ _ _ _ _ (heap_alloc_new w _)]; simpa using h, fun i => by simp [go_sem], fun i h => by rw [cell_of_row _ _ _ _ _ _ (heap_alloc_new w _)]; exact Array.getElem?_eq_none (by simpa using h)⟩
theorem VN.bel (h : VN w b xs) (hb : Below w.heap.size w w') : VN w' b xs :=
  have e := hb.block b h.lt
  ⟨Nat.lt_of_lt_of_le h.lt hb.size, fun j v hv => (World.cell?_of_block e).trans (h.c j v hv), fun i => (frozen_of_block e i).trans (h.z i), fun i hi => (World.cell?_of_block e).trans (h.top i hi)⟩
theorem VN.kf {F G : Nat → Prop} (h : VN w b xs) (hf : ¬ F b) (k : Kf F w w' G) : VN w' b xs :=
  have e := (k.free h.lt hf).2
  ⟨Nat.lt_of_lt_of_le h.lt k.fr.size, fun j v hv => (World.cell?_of_block e).trans (h.c j v hv), fun i => (frozen_of_block e i).trans (h.z i), fun i hi => (World.cell?_of_block e).trans (h.top i hi)⟩
theorem size_setCell (w : World) (p : Addr) (u : Value) : (w.setCell p u).heap.size = w.heap.size := by simp [World.setCell]
theorem VN.set (h : VN w b xs) (j : Nat) (hj : j < xs.length) (u : Value) : VN (w.setCell ⟨b, j, none⟩ u) b (xs.set j u) :=
  ⟨by rw [size_setCell]; exact h.lt, fun i v hv => by
    by_cases e : i = j
    · subst e
      rw [List.getElem?_set_self hj] at hv
      injection hv with hv
      subst hv
      exact World.cell?_setCell_same _ _ _ (h.c i _ (List.getElem?_eq_getElem hj))
    · rw [List.getElem?_set_ne (fun e2 => e e2.symm)] at hv
      exact (World.cell?_setCell_other _ _ _ _ (fun e2 => e (by injection e2 with _ e3 _; exact e3.symm))).trans (h.c i v hv), fun i => (World.frozen?_setCell _ _ _ _).trans (h.z i), fun i hi => by
    rw [List.length_set] at hi
    exact (World.cell?_setCell_other _ _ _ _ (fun e2 => by injection e2 with _ e3 _; omega)).trans (h.top i hi)⟩
theorem VN.other (h : VN w b xs) {p : Addr} (hp : p.block ≠ b) (u : Value) : VN (w.setCell p u) b xs :=
  ⟨by rw [size_setCell]; exact h.lt, fun i v hv => (World.cell?_setCell_other _ _ _ _ (fun e => hp (by rw [e]))).trans (h.c i v hv), fun i => (World.frozen?_setCell _ _ _ _).trans (h.z i), fun i hi => (World.cell?_setCell_other _ _ _ _ (fun e => hp (by rw [e]))).trans (h.top i hi)⟩
theorem VN.drew (h : VN w b xs) : VN w.drew b xs := ⟨h.lt, h.c, h.z, h.top⟩
theorem VN.range (h : VN w b xs) : w.rangeAt b 0 xs := fun j v hj => by rw [Nat.zero_add]; exact h.c j v hj
theorem VN.alloc (h : VN w b xs) (o : Obj) : VN (w.alloc o) b xs := h.bel (box1 w o)
theorem VN.grown {row : Option Nat} (h : VN w b xs) (g : w.grownBy w' row) (hr : row ≠ some b) : VN w' b xs :=
  have e := g.block b h.lt (fun e => hr e.symm)
  ⟨Nat.lt_of_lt_of_le h.lt g.size, fun j v hv => (World.cell?_of_block e).trans (h.c j v hv), fun i => (frozen_of_block e i).trans (h.z i), fun i hi => (World.cell?_of_block e).trans (h.top i hi)⟩
theorem bel_grown {w0 : World} {B : Nat} {row : Option Nat} (h : Below B w0 w) (hB : B ≤ w.heap.size) (g : w.grownBy w' row) (hr : ∀ k, row = some k → B ≤ k) : Below B w0 w' :=
  h.trans ⟨g.os, g.tape, g.output, g.size, fun k hk => g.block k (by omega) (fun e => by have := hr k e.symm; omega)⟩
theorem put3 {kb kn base e size n : Nat} {x0 y0 z0 iv : Value} {ns cs : List Value} {ty : TypeId} (T : VN w kb [x0, y0, z0]) (N : VN w kn ns) (hO : w.ownsRow base e size iv n cs) (hne : kb ≠ kn) (hiv : iv.ownBlock ≠ some kb) (x y z : Value) :
    ((((w.setCell ⟨kb, 0, none⟩ x).setCell ⟨kb, 1, none⟩ y).setCell ⟨kb, 2, none⟩ z).alloc (.cells #[x, y, z] ty)).ownsRow base e size iv n cs ∧
    (∀ i u, [x, y, z][i]? = some u → ((((w.setCell ⟨kb, 0, none⟩ x).setCell ⟨kb, 1, none⟩ y).setCell ⟨kb, 2, none⟩ z).alloc (.cells #[x, y, z] ty)).cell? ((⟨w.heap.size, 0, none⟩ : Addr).add i) = some u) ∧
    VN ((((w.setCell ⟨kb, 0, none⟩ x).setCell ⟨kb, 1, none⟩ y).setCell ⟨kb, 2, none⟩ z).alloc (.cells #[x, y, z] ty)) kn ns := by
  refine ⟨?_, fun i u hu => ?_, ?_⟩
  · refine Dk.owns_of_block hO fun k hk => ?_
    have hlt := (World.ownsRow.lt hO k hk).2
    have hkb : k ≠ kb := fun e => hiv (e ▸ hk)
    rw [Below.heap_alloc _ _ _ (by simp [World.setCell]; exact hlt)]
    exact (Below.heap_setCell _ _ _ _ hkb).trans ((Below.heap_setCell _ _ _ _ hkb).trans (Below.heap_setCell _ _ _ _ hkb))
  · have hs : ((((w.setCell ⟨kb, 0, none⟩ x).setCell ⟨kb, 1, none⟩ y).setCell ⟨kb, 2, none⟩ z)).heap.size = w.heap.size := by simp [World.setCell]
    rw [show (⟨w.heap.size, 0, none⟩ : Addr).add i = ⟨w.heap.size, i, none⟩ by unfold Addr.add; split <;> simp_all]
    have := heap_alloc_new (((w.setCell ⟨kb, 0, none⟩ x).setCell ⟨kb, 1, none⟩ y).setCell ⟨kb, 2, none⟩ z) (.cells #[x, y, z] ty)
    rw [hs] at this
    rw [cell_of_row _ _ _ _ _ _ this]
    simpa using hu
  · exact (((N.other (p := ⟨kb, 0, none⟩) hne x).other (p := ⟨kb, 1, none⟩) hne y).other (p := ⟨kb, 2, none⟩) hne z).alloc _
theorem bel_set {w0 : World} {B k i : Nat} (h : Below B w0 w) (hk : B ≤ k) (u : Value) : Below B w0 (w.setCell ⟨k, i, none⟩ u) := h.setCell hk u
end
section
variable {w w' : World} {F G : Nat → Prop} {N : Nat} {v : Value}
theorem cutS_any {w0 : World} {A : Option Addr} {m c n : Nat} {p q : By} (h0 : RdF w0 F (.slice A m c) (p ++ q)) (hb : Below w0.heap.size w0 w) (hn : p.length = n) :
    Calls Tryz.prog 131 #[.slice A m c, .int .i64 (n : Int)] w fun e w' => ∃ A2 m2 c2, e = .returned (.tuple #[.slice A n n, .slice A2 m2 c2]) ∧ RdF w0 F (.slice A n n) p ∧ RdF w0 F (.slice A2 m2 c2) q ∧ Below w0.heap.size w0 w' ∧ Below w.heap.size w w' := by
  have hnl : n ≤ (p ++ q).length := by rw [List.length_append]; omega
  obtain ⟨e1, e2, r1, r2⟩ := h0.cut hnl
  subst e1
  have h := h0.kf (kfb hb)
  have ht : (p ++ q).take n = p := by rw [← hn]; simp
  have hd : (p ++ q).drop n = q := by rw [← hn]; simp
  have hl : (p ++ q).length - n = q.length := by rw [List.length_append]; omega
  rw [ht] at r1
  rw [hd, hl] at r2
  refine (cut_any h hnl).mono ?_
  rintro e w' ⟨rfl, k, rfl⟩
  rw [hl]
  exact ⟨_, _, _, rfl, r1, r2, below_drewN hb k, below_drewN (Below.refl _ w) k⟩
theorem RdF.bel {l : By} (h : RdF w F v l) (hb : Below w.heap.size w w') : RdF w' F v l := h.kf (kfb hb)
theorem cell_bel {k i : Nat} {u : Value} (hb : Below w.heap.size w w') (h : w.cell? ⟨k, i, none⟩ = some u) : w'.cell? ⟨k, i, none⟩ = some u := (hb.cell (p := ⟨k, i, none⟩) (Dk.lt_of_cell h)).trans h
theorem number_at {w0 : World} {A : Option Addr} {c p : Nat} (h : RdF w0 F (.slice A 2 c) (be2 p)) (hb : Below w0.heap.size w0 w) (hp : p < 65536) :
    Calls Tryz.prog 88 #[.slice A 2 c] w fun e w' => e = .returned (.int .i64 (p : Int)) ∧ Below w0.heap.size w0 w' ∧ Below w.heap.size w w' := by
  obtain ⟨A', c', e, hr⟩ := (h.kf (kfb hb)).rd
  injection e with e1 _ e3
  subst e1 e3
  refine (number_any hr hp).mono ?_
  rintro e w' ⟨rfl, q, rfl⟩
  exact ⟨rfl, below_drewN hb q, below_drewN (Below.refl _ w) q⟩
set_option maxHeartbeats 4000000 in
theorem heardItem_any {w0 : World} {A : Option Addr} {m c : Nat} {x : It} {tl : By} (h : RdF w0 F (.slice A m c) (itB x ++ tl)) (hb0 : Below w0.heap.size w0 w) (h1 : x.1.length < 65536) (h2 : x.2.length < 65536) :
    Calls Tryz.prog 132 #[.slice A m c] w fun e w' => ∃ Ak ck Ar cr At nt ct, e = .returned (.tuple #[.agg #[.slice Ak x.1.length ck, .slice Ar x.2.length cr, .pointer none], .slice At nt ct]) ∧
      RdF w0 F (.slice Ak x.1.length ck) x.1 ∧ RdF w0 F (.slice Ar x.2.length cr) x.2 ∧ RdF w0 F (.slice At nt ct) tl ∧ Below w0.heap.size w0 w' ∧ Below w.heap.size w w' := by
  have e : itB x ++ tl = be2 x.1.length ++ (be2 x.2.length ++ (x.1 ++ (x.2 ++ tl))) := by simp [itB]
  rw [e] at h
  have H := Lib.hid h
  clear h e
  generalize hn1 : x.1.length = n1 at *
  generalize hn2 : x.2.length = n2 at *
  have HN1 := Lib.hid hn1
  have HN2 := Lib.hid hn2
  clear hn1 hn2
  obtain ⟨W0, hW0⟩ : ∃ W, W = w.alloc (.cells #[.slice none 0 0, .slice none 0 0, .pointer none] 80) := ⟨_, rfl⟩
  have D0 := Lib.hid (show Below w.heap.size w W0 from hW0 ▸ box1 w _)
  have B0 := Lib.hid (hb0.trans (D0.out.mono hb0.size))
  have HB0 := Lib.hid hb0
  clear hb0
  have HW0 := Lib.hid hW0
  have R0 := Lib.hid (show VN W0 w.heap.size [.slice none 0 0, .slice none 0 0, .pointer none] from hW0 ▸ VN.new w _ _)
  clear hW0
  have t1 := trivial
  have t2 := trivial
  have t3 := trivial
  have t4 := trivial
  have t5 := trivial
  have t6 := trivial
  go_enter Tryz.func132, Tryz.ntmps132
  go_wp2_with fail
  rw [← HW0.out]
  go_wp2_with (first
    | (go_at_call 131; clear t1; refine (cutS_any (n := 2) H.out B0.out rfl).mono ?_; rintro e w1 ⟨A1, m1, c1, rfl, p1, q1, hb1, hc1⟩; have P1 := Lib.hid p1; have Q1 := Lib.hid q1; have B1 := Lib.hid hb1; have R1 := Lib.hid (R0.out.bel hc1); have D1 := Lib.hid (D0.out.trans (hc1.mono D0.out.size)); clear p1 q1 hb1 hc1 R0)
    | (go_at_call 131; clear t2; refine (cutS_any (n := 2) Q1.out B1.out rfl).mono ?_; rintro e w2 ⟨A2, m2, c2, rfl, p2, q2, hb2, hc2⟩; have P2 := Lib.hid p2; have Q2 := Lib.hid q2; have B2 := Lib.hid hb2; have R2 := Lib.hid (R1.out.bel hc2); have D2 := Lib.hid (D1.out.trans (hc2.mono D1.out.size)); clear p2 q2 hb2 hc2 R1))
  obtain ⟨W2, hW2⟩ : ∃ W, W = w2.alloc (.cells #[.slice none 0 0, .slice none 0 0, .pointer none] 80) := ⟨_, rfl⟩
  have hc3 : Below w2.heap.size w2 W2 := hW2 ▸ box1 w2 _
  have S2 := Lib.hid (show VN W2 w2.heap.size [.slice none 0 0, .slice none 0 0, .pointer none] from hW2 ▸ VN.new w2 _ _)
  have B3 := Lib.hid (B2.out.trans (hc3.mono B2.out.size))
  have R3 := Lib.hid (R2.out.bel hc3)
  have HNE := Lib.hid (Nat.ne_of_lt R2.out.lt)
  have LE2 := Lib.hid D2.out.size
  have D3 := Lib.hid (D2.out.trans (hc3.mono D2.out.size))
  rw [← hW2]
  clear hc3 hW2 R2
  go_wp2_with (first
    | (go_at_call 88; clear t3; refine (number_at P1.out B3.out h1).mono ?_; rintro e w3 ⟨rfl, hb3, hc3⟩; have B3a := Lib.hid hb3; have R3a := Lib.hid (R3.out.bel hc3); have S2a := Lib.hid (S2.out.bel hc3); have D3a := Lib.hid (D3.out.trans (hc3.mono D3.out.size)); clear hb3 hc3 R3 S2)
    | (go_at_call 131; clear t4; refine (cutS_any (n := n1) Q2.out B3a.out HN1.out).mono ?_; rintro e w4 ⟨A4, m4, c4, rfl, p4, q4, hb4, hc4⟩; have P4 := Lib.hid p4; have Q4 := Lib.hid q4; have B4 := Lib.hid hb4; have R4 := Lib.hid (R3a.out.bel hc4); have S4 := Lib.hid (S2a.out.bel hc4); have D4 := Lib.hid (D3a.out.trans (hc4.mono D3a.out.size)); have s40 := S4.out.c 0 _ rfl; have s43 := S4.out.z 0; clear p4 q4 hb4 hc4 R3a S2a))
  have S5 := Lib.hid (S4.out.set 0 (by simp) (.slice A2 n1 n1))
  have B5 := Lib.hid (bel_set B4.out (Nat.le_trans HB0.out.size LE2.out) (i := 0) (.slice A2 n1 n1))
  have D5 := Lib.hid (bel_set D4.out LE2.out (i := 0) (.slice A2 n1 n1))
  have R5 := Lib.hid (R4.out.other (p := ⟨w2.heap.size, 0, none⟩) (fun e => HNE.out e.symm) (.slice A2 n1 n1))
  clear s40 s43 S4 B4 R4 D4
  generalize w4.setCell ⟨w2.heap.size, 0, none⟩ (.slice A2 n1 n1) = W5 at S5 B5 R5 D5 ⊢
  go_wp2_with (first
    | (go_at_call 88; clear t5; refine (number_at P2.out B5.out h2).mono ?_; rintro e w6 ⟨rfl, hb3, hc3⟩; have B6 := Lib.hid hb3; have R6 := Lib.hid (R5.out.bel hc3); have S6 := Lib.hid (S5.out.bel hc3); have D6 := Lib.hid (D5.out.trans (hc3.mono D5.out.size)); clear hb3 hc3 R5 S5)
    | (go_at_call 131; clear t6; refine (cutS_any (n := n2) Q4.out B6.out HN2.out).mono ?_; rintro e w7 ⟨A7, m7, c7, rfl, p4, q4, hb4, hc4⟩; have P7 := Lib.hid p4; have Q7 := Lib.hid q4; have B7 := Lib.hid hb4; have R7 := Lib.hid (R6.out.bel hc4); have D7 := Lib.hid (D6.out.trans (hc4.mono D6.out.size)); have S7 := Lib.hid (S6.out.bel hc4); have s71 := S7.out.c 1 _ rfl; have s73 := S7.out.z 1; have S8 := Lib.hid (S7.out.set 1 (by simp) (.slice A4 n2 n2)); have s80 := S8.out.c 0 _ rfl; have s81 := S8.out.c 1 _ rfl; have s82 := S8.out.c 2 _ rfl; have r80 := R7.out.c 0 _ rfl; have r81 := R7.out.c 1 _ rfl; have r82 := R7.out.c 2 _ rfl; have z80 := R7.out.z 0; have z81 := R7.out.z 1; have z82 := R7.out.z 2; have hne1 : ¬ w.heap.size = w2.heap.size := HNE.out; have hne2 : ¬ w2.heap.size = w.heap.size := fun e => HNE.out e.symm; clear p4 q4 hb4 hc4 R6 S6))
  have Z := (((R7.out.other (p := ⟨w2.heap.size, 1, none⟩) hne2 (.slice A4 n2 n2)).set 0 (by simp) (.slice A2 n1 n1)).set 1 (by simp) (.slice A4 n2 n2)).set 2 (by simp) (.pointer none)
  refine bodyPost_ret (results_ct rfl w.heap.size [.slice A2 n1 n1, .slice A4 n2 n2, .pointer none] _ rfl Z.range Tryz.underlying80 rfl info_item) rfl ?_
  exact ⟨A2, n1, A4, n2, A7, m7, c7, rfl, P4.out, P7.out, Q7.out, bel_set (bel_set (bel_set (bel_set B7.out (Nat.le_trans HB0.out.size LE2.out) _) HB0.out.size _) HB0.out.size _) HB0.out.size _, bel_set (bel_set (bel_set (bel_set D7.out LE2.out _) (Nat.le_refl _) _) (Nat.le_refl _) _) (Nat.le_refl _) _⟩
end
def KR0 (w : World) (F : Nat → Prop) (N : Nat) (v : Value) (l : List It) : Prop :=
  Slots w F N v l.length fun i kv rv mv => ∃ x, l[i]? = some x ∧ RdF w F kv x.1 ∧ RdF w F rv x.2 ∧ mv = .pointer none
def c3 (p : Value × Value) : List Value := [p.1, p.2, .pointer none]
def c3s (l : List (Value × Value)) : List Value := (l.map c3).flatten
theorem c3s_snoc (l : List (Value × Value)) (p : Value × Value) : c3s (l ++ [p]) = c3s l ++ [p.1, p.2, .pointer none] := by simp [c3s, c3]
theorem c3s_at (l : List (Value × Value)) (i : Nat) (p : Value × Value) (h : l[i]? = some p) : (c3s l)[i * 3]? = some p.1 ∧ (c3s l)[i * 3 + 1]? = some p.2 ∧ (c3s l)[i * 3 + 2]? = some (.pointer none) := by
  induction l generalizing i with
  | nil => simp at h
  | cons x l ih =>
    have e : c3s (x :: l) = x.1 :: x.2 :: .pointer none :: c3s l := by simp [c3s, c3]
    rw [e]
    cases i with
    | zero => simp at h; subst h; exact ⟨rfl, rfl, rfl⟩
    | succ i =>
      have h := ih i (by simpa using h)
      rw [show (i + 1) * 3 = i * 3 + 1 + 1 + 1 by omega]
      simpa using h
section
variable {w w' : World} {F G : Nat → Prop} {N : Nat} {v : Value}
def VsAt (w : World) (F : Nat → Prop) (ps : List (Value × Value)) (l : List It) : Prop := ps.length = l.length ∧ ∀ (i : Nat) (p : Value × Value) (x : It), ps[i]? = some p → l[i]? = some x → RdF w F p.1 x.1 ∧ RdF w F p.2 x.2
theorem VsAt.snoc {ps : List (Value × Value)} {l : List It} (h : VsAt w F ps l) {kv rv : Value} {x : It} (h1 : RdF w F kv x.1) (h2 : RdF w F rv x.2) : VsAt w F (ps ++ [(kv, rv)]) (l ++ [x]) := by
  refine ⟨by simp [h.1], fun i p y hp hy => ?_⟩
  rcases Nat.lt_trichotomy i ps.length with hi | hi | hi
  · rw [List.getElem?_append_left hi] at hp
    rw [List.getElem?_append_left (by rw [← h.1]; exact hi)] at hy
    exact h.2 i p y hp hy
  · subst hi
    rw [List.getElem?_append_right (Nat.le_refl _), Nat.sub_self] at hp
    rw [List.getElem?_append_right (by rw [h.1]; exact Nat.le_refl _), h.1, Nat.sub_self] at hy
    simp at hp hy
    subst hp hy
    exact ⟨h1, h2⟩
  · rw [List.getElem?_eq_none (by simp; omega)] at hp; cases hp
theorem VsAt.kf {ps : List (Value × Value)} {l : List It} (h : VsAt w F ps l) (k : Kf F w w' G) : VsAt w' G ps l := ⟨h.1, fun i p x hp hx => ⟨(h.2 i p x hp hx).1.kf k, (h.2 i p x hp hx).2.kf k⟩⟩
theorem KR0.own {base : Nat} {ps : List (Value × Value)} {l : List It} (ho : w.ownsRow base 80 3 v l.length (c3s ps)) (hp : VsAt w F ps l) (hF : ∀ k, F k → k < base) (hN : N ≤ base) : KR0 w F N v l := by
  have hlt := World.ownsRow.lt ho
  have hcells := fun g hg => World.ownsRow.cells (g := g) ho hg
  rcases ho.2 with ⟨rfl, h0⟩ | ⟨g, cap, cur, rfl, hb, hh, hnc, hcm, _, _⟩
  · refine ⟨none, 0, by rw [h0], by omega, by unfold maxLen; omega, fun _ => rfl, fun hn => absurd hn (by omega)⟩
  · refine ⟨_, cap, rfl, hnc, hcm, fun e => (by cases e), fun _ => ⟨g, 0, rfl, (hlt g rfl).2, fun hf => by have := hF g hf; omega, by omega, fun j => by simp [World.frozen?, hh], fun i hi => ?_⟩⟩
    have hip : i < ps.length := by have := hp.1; omega
    obtain ⟨p, hpi⟩ : ∃ p, ps[i]? = some p := ⟨_, List.getElem?_eq_getElem hip⟩
    have hxi : l[i]? = some l[i] := List.getElem?_eq_getElem hi
    obtain ⟨a1, a2, a3⟩ := c3s_at ps i p hpi
    have hadd : ∀ j, (⟨g, 0, none⟩ : Addr).add j = ⟨g, j, none⟩ := fun j => by unfold Addr.add; split <;> simp_all
    have b1 := hcells g rfl _ _ a1
    have b2 := hcells g rfl _ _ a2
    have b3 := hcells g rfl _ _ a3
    rw [hadd] at b1 b2 b3
    refine ⟨p.1, p.2, .pointer none, by rw [Nat.zero_add]; exact b1, by rw [Nat.zero_add]; exact b2, by rw [Nat.zero_add]; exact b3, l[i], hxi, (hp.2 i p _ hpi hxi).1, (hp.2 i p _ hpi hxi).2, rfl⟩
theorem KR0.kr {l : List It} (h : KR0 w F N v l) : KR w F N v l := Slots.imp h fun i kv rv mv _ ⟨x, h1, h2, h3, h4⟩ => ⟨x, h1, h2, h3, _, h4⟩
theorem KR0.kf {l : List It} (h : KR0 w F N v l) (q : Kf F w w' G) : KR0 w' G N v l := Slots.kf h q fun i kv rv mv _ ⟨y, h7, h8, h9, h10⟩ => ⟨y, h7, h8.kf q, h9.kf q, h10⟩
def lenV : Value → Nat
  | .slice _ n _ => n
  | _ => 0
theorem item_info : (Tryz.prog.info? 80).map (fun i => (i.zero, i.size, i.bytes)) = some (some (.agg #[.slice none 0 0, .slice none 0 0, .pointer none]), 3, 56) := by kernel_rfl
theorem itsB_drop {l : List It} {j : Nat} (h : j < l.length) : itsB (l.drop j) = itB l[j] ++ itsB (l.drop (j + 1)) := by
  show ((l.drop j).map itB).flatten = _
  rw [List.drop_eq_getElem_cons h]; rfl
set_option maxHeartbeats 8000000 in
theorem heard_any {A : Option Addr} {m c k : Nat} {l : List It} (h : RdF w F (.slice A m c) (UInt8.ofNat k :: itsB l)) (hk : k < 256) (hl : ∀ x ∈ l, x.1.length < 65536 ∧ x.2.length < 65536) (hn : l.length ≤ 100000) (hF : ∀ b, F b → b < w.heap.size) :
    Calls Tryz.prog 100 #[.slice A m c] w fun e w' => ∃ v, e = .returned (.agg #[.int .i64 0, .int .i64 (k : Int), .slice none 0 0, .slice none 0 0, v]) ∧ KR0 w' F w.heap.size v l ∧ Below w.heap.size w w' := by
  have H := Lib.hid (show RdF w F (.slice A m c) ([UInt8.ofNat k] ++ itsB l) from h)
  have hlev : ((UInt8.ofNat k).toNat : Int) = (k : Int) := by rw [UInt8.toNat_ofNat']; omega
  have HLEV := Lib.hid hlev
  have HL := Lib.hid hl
  have HN := Lib.hid hn
  have HF := Lib.hid hF
  have HK := Lib.hid hk
  clear h hlev hl hn hF hk
  obtain ⟨W0, hW0⟩ : ∃ W, W = w.alloc (.cells #[.int .i64 0, .int .i64 0, .slice none 0 0, .slice none 0 0, .slice none 0 0] 75) := ⟨_, rfl⟩
  have B0 := Lib.hid (show Below w.heap.size w W0 from hW0 ▸ box1 w _)
  have R0 := Lib.hid (show VN W0 w.heap.size [.int .i64 0, .int .i64 0, .slice none 0 0, .slice none 0 0, .slice none 0 0] from hW0 ▸ VN.new w _ _)
  have HW0 := Lib.hid hW0
  clear hW0
  have t1 := trivial
  go_enter Tryz.func100, Tryz.ntmps100
  go_wp2_with fail
  rw [← HW0.out]
  go_wp2_with fail
  go_at_call 131
  refine (cutS_any (n := 1) H.out B0.out rfl).mono ?_
  rintro e w1 ⟨A1, m1, c1, rfl, p1, q1, hb1, hc1⟩; obtain ⟨A1', c1', e1, hr1⟩ := (p1.kf (kfb hb1)).rd; injection e1 with e1 e2 e3; clear e2; subst e1 e3; obtain ⟨pb, po, rfl, -, hpc⟩ := hr1.2.2.2 (by simp); have g0 := hpc 0 (by simp); simp only [List.getElem_cons_zero, Nat.add_zero] at g0; rw [HLEV.out] at g0; have Q1 := Lib.hid q1; have B1 := Lib.hid hb1; have R1 := Lib.hid (R0.out.bel hc1); clear p1 q1 hb1 hc1 R0 hr1 hpc
  have hwk : wrap64 (k : Int) = (k : Int) := by have := HK.out; unfold wrap64; omega
  go_wp2_with fail
  obtain ⟨W1, hW1⟩ : ∃ W, W = w1.alloc (.cells #[.int .i64 0, .int .i64 (k : Int), .slice none 0 0, .slice none 0 0, .slice none 0 0] 75) := ⟨_, rfl⟩
  have hc1 : Below w1.heap.size w1 W1 := hW1 ▸ box1 w1 _
  have S1 := Lib.hid (show VN W1 w1.heap.size [.int .i64 0, .int .i64 (k : Int), .slice none 0 0, .slice none 0 0, .slice none 0 0] from hW1 ▸ VN.new w1 _ _)
  have R2 := Lib.hid (R1.out.bel hc1)
  have B2 := Lib.hid (B1.out.trans (hc1.mono B1.out.size))
  have LT := Lib.hid R1.out.lt
  rw [← hW1]
  have hss : W1.heap.size = w1.heap.size + 1 := by rw [hW1]; simp
  have HSS := Lib.hid hss
  clear hc1 hW1 R1 B1 g0 hss
  obtain ⟨kn, hkn⟩ : ∃ kn, kn = w1.heap.size := ⟨_, rfl⟩
  rw [← hkn] at S1 LT HSS ⊢
  clear hkn
  simp only [hwk]
  clear hwk
  go_loopw [0] (fun v wr => ∃ (j : Nat) (Ab : Option Addr) (mb cb : Nat) (iv : Value) (ps : List (Value × Value)), j ≤ l.length ∧ v = .slice Ab mb cb ∧ Hid (RdF w F (.slice Ab mb cb) (itsB (l.drop j)) ∧ Below w.heap.size w wr ∧ VN wr w.heap.size [.int .i64 0, .int .i64 0, .slice none 0 0, .slice none 0 0, .slice none 0 0] ∧ VN wr kn [.int .i64 0, .int .i64 (k : Int), .slice none 0 0, .slice none 0 0, iv] ∧ wr.ownsRow (kn + 1) 80 3 iv j (c3s ps) ∧ VsAt w F ps (l.take j))) (fun v _ => lenV v)
  case atStart => exact ⟨0, A1, m1, c1, .slice none 0 0, [], Nat.zero_le _, rfl, Lib.hid ⟨Q1.out, B2.out, R2.out, S1.out, World.ownsRow_nil _ _ _ _, rfl, fun i p x hp => by simp at hp⟩⟩
  case round =>
    obtain ⟨j, Ab, mb, cb, iv, ps, hj, rfl, I⟩ := hrel
    by_cases hlt : j < l.length
    · have h0 := I.out.1
      rw [itsB_drop hlt] at h0
      have hpos : (0 : Int) < (mb : Int) := by
        obtain ⟨A', c', e, _⟩ := h0
        injection e with _ e2 _
        rw [e2, List.length_append, length_itB]
        have := isz_pos l[j]
        omega
      have hx := HL.out l[j] (List.getElem_mem hlt)
      obtain ⟨Ai, ci, rfl⟩ := own_len' I.out.2.2.2.2.1
      have H0 := Lib.hid h0
      have HX := Lib.hid hx
      clear h0 hx
      obtain ⟨Wi, hWi⟩ : ∃ W, W = wr.alloc (.cells #[.slice none 0 0, .slice none 0 0, .pointer none] 80) := ⟨_, rfl⟩
      have di : Below wr.heap.size wr Wi := hWi ▸ box1 wr _
      have T0 := Lib.hid (show VN Wi wr.heap.size [.slice none 0 0, .slice none 0 0, .pointer none] from hWi ▸ VN.new wr _ _)
      have HWi := Lib.hid hWi
      have DI := Lib.hid di
      clear hWi di
      have hsz : wr.heap.size ≠ kn := fun e => by have := I.out.2.2.2.1.lt; omega
      have HSZ := Lib.hid hsz
      clear hsz
      have OWB := Lib.hid (show (Value.slice Ai j ci).ownBlock ≠ some wr.heap.size from fun e => by have := (World.ownsRow.lt I.out.2.2.2.2.1 _ e).2; omega)
      have hxx : ∀ (q1 q2 : Value), q1.oneCell' = true → q2.oneCell' = true → ∀ u ∈ [q1, q2, Value.pointer none], u.oneCell' = true := fun q1 q2 h1 h2 u hu => by simp at hu; rcases hu with rfl | rfl | rfl <;> first | exact h1 | exact h2 | rfl
      have HXX := Lib.hid hxx
      have HJN := Lib.hid (show j + 1 ≤ 100000 by have := HN.out; omega)
      clear hxx
      have t1 := trivial
      go_wp2_with fail
      rw [← HWi.out]
      go_wp2_with (first
        | (go_at_call 132; clear t1; refine (heardItem_any H0.out (I.out.2.1.trans (DI.out.mono I.out.2.1.size)) HX.out.1 HX.out.2).mono ?_; rintro e w2 ⟨Ak, ck, Ar, cr, At, nt, ct, rfl, p1, p2, p3, b1, b2⟩; have P1 := Lib.hid p1; have P2 := Lib.hid p2; have P3 := Lib.hid p3; have K2 := Lib.hid b1; have DD := Lib.hid (DI.out.trans (b2.mono DI.out.size)); have T2 := Lib.hid (T0.out.bel b2); have N2 := Lib.hid (I.out.2.2.2.1.bel DD.out); have O2 := Lib.hid (Dk.owns_of_block I.out.2.2.2.2.1 fun k hk => DD.out.block k (World.ownsRow.lt I.out.2.2.2.2.1 k hk).2); have PUT := Lib.hid (put3 (ty := 80) T2.out N2.out O2.out HSZ.out OWB.out (.slice Ak l[j].1.length ck) (.slice Ar l[j].2.length cr) (.pointer none)); have a0 := T2.out.c 0 _ rfl; have a1 := T2.out.c 1 _ rfl; have a2 := T2.out.c 2 _ rfl; have z0 := T2.out.z 0; have z1 := T2.out.z 1; have z2 := T2.out.z 2; have n4 := N2.out.c 4 _ rfl; have hne1 : ¬ wr.heap.size = kn := HSZ.out; have hne2 : ¬ kn = wr.heap.size := fun e => HSZ.out e.symm; clear p1 p2 p3 b1 b2)
        | (at_builtin; refine wpList_append_row Tryz.underlying73 item_info rfl (by omega) rfl _ _ rfl (kn + 1) _ _ _ rfl PUT.out.1 _ 1 _ [.slice Ak l[j].1.length ck, .slice Ar l[j].2.length cr, .pointer none] rfl rfl PUT.out.2.1 (HXX.out _ _ rfl rfl) (by have := HJN.out; unfold maxLen; omega) (by have := HJN.out; omega) PUT.out.2.2.lt ?_; intro v' w3 r1 r2 r3; obtain ⟨A3, c3, rfl⟩ := own_len' r1; have N3 := PUT.out.2.2.grown r2 (fun e => by have := (World.ownsRow.lt PUT.out.1 _ e).1; omega); have n34 := N3.c 4 _ rfl; have z34 := N3.z 4; have NN3 := Lib.hid N3; have RR1 := Lib.hid r1; have RR2 := Lib.hid r2; clear r1 r2 r3 N3 a0 a1 a2 z0 z1 z2 n4))
      go_roundw
      case rel =>
        have hle : w.heap.size ≤ w2.heap.size := K2.out.size
        have hB7 := ((bel_set (bel_set (bel_set K2.out I.out.2.1.size (i := 0) (.slice Ak l[j].1.length ck)) I.out.2.1.size (i := 1) (.slice Ar l[j].2.length cr)) I.out.2.1.size (i := 2) (.pointer none)).alloc (by simp [World.setCell]; omega) (.cells #[.slice Ak l[j].1.length ck, .slice Ar l[j].2.length cr, .pointer none] 80))
        have hlow : ∀ q, (Value.slice Ai j ci).ownBlock = some q → kn + 1 ≤ q := fun q e => (World.ownsRow.lt PUT.out.1 q e).1
        have hB8 := bel_grown hB7 hB7.size RR2.out (fun q e => by have := hlow q e; have := LT.out; omega)
        have hRR := (((I.out.2.2.1.bel DD.out).other (p := ⟨wr.heap.size, 0, none⟩) (fun e => by have := I.out.2.2.1.lt; simp at e; omega) (.slice Ak l[j].1.length ck)).other (p := ⟨wr.heap.size, 1, none⟩) (fun e => by have := I.out.2.2.1.lt; simp at e; omega) (.slice Ar l[j].2.length cr)).other (p := ⟨wr.heap.size, 2, none⟩) (fun e => by have := I.out.2.2.1.lt; simp at e; omega) (.pointer none)
        have hRR2 := (hRR.alloc (.cells #[.slice Ak l[j].1.length ck, .slice Ar l[j].2.length cr, .pointer none] 80)).grown RR2.out (fun e => by have := hlow _ e; have := LT.out; omega)
        have hown := Dk.owns_of_block RR1.out (w' := w3.setCell ⟨kn, 4, none⟩ (.slice A3 (j + 1) c3)) fun q hq => Below.heap_setCell _ _ _ _ (fun e => by have := (World.ownsRow.lt RR1.out q hq).1; simp at e; omega)
        refine ⟨j + 1, At, nt, ct, .slice A3 (j + 1) c3, ps ++ [(.slice Ak l[j].1.length ck, .slice Ar l[j].2.length cr)], by omega, rfl, Lib.hid ⟨P3.out, bel_set hB8 (Nat.le_of_lt LT.out) _, hRR2.other (p := ⟨kn, 4, none⟩) (fun e => by have := LT.out; simp at e; omega) _, NN3.out.set 4 (by simp) _, ?_, ?_⟩⟩
        · rw [c3s_snoc]; exact hown
        · rw [List.take_succ_eq_append_getElem hlt]
          exact I.out.2.2.2.2.2.snoc P1.out P2.out
      case measure =>
        have h1 := P3.out
        have h0 := H0.out
        obtain ⟨_, _, e1, _⟩ := h1
        obtain ⟨_, _, e0, _⟩ := h0
        injection e1 with _ e1 _
        injection e0 with _ e0 _
        show nt < mb
        rw [e1, e0, List.length_append, length_itB]
        have := isz_pos l[j]
        omega
    · obtain rfl : j = l.length := by omega
      obtain ⟨Ai, ci, rfl⟩ := own_len' I.out.2.2.2.2.1
      have h0 := I.out.1
      rw [List.drop_length] at h0
      have hm0 : mb = 0 := by
        obtain ⟨_, _, e, _⟩ := h0
        injection e
      subst hm0
      have hI := I.out.2
      rw [List.take_length] at hI
      obtain ⟨i1, i2, i3, i4, i5⟩ := hI
      have a0 := i2.c 0 _ rfl
      have a1 := i2.c 1 _ rfl
      have a2 := i2.c 2 _ rfl
      have a3 := i2.c 3 _ rfl
      have a4 := i2.c 4 _ rfl
      have z0 := i2.z 0
      have z1 := i2.z 1
      have z2 := i2.z 2
      have z3 := i2.z 3
      have z4 := i2.z 4
      have n0 := i3.c 0 _ rfl
      have n1 := i3.c 1 _ rfl
      have n2 := i3.c 2 _ rfl
      have n3 := i3.c 3 _ rfl
      have n4 := i3.c 4 _ rfl
      have I1 := Lib.hid i1
      have I2 := Lib.hid i2
      have I4 := Lib.hid i4
      have I5 := Lib.hid i5
      clear I h0 i1 i2 i3 i4 i5
      go_wp2
      have Z := ((((I2.out.set 0 (by simp) (.int .i64 0)).set 1 (by simp) (.int .i64 (k : Int))).set 2 (by simp) (.slice none 0 0)).set 3 (by simp) (.slice none 0 0)).set 4 (by simp) (.slice Ai l.length ci)
      refine bodyPost_ret (results_c rfl w.heap.size [.int .i64 0, .int .i64 (k : Int), .slice none 0 0, .slice none 0 0, .slice Ai l.length ci] _ rfl Z.range Tryz.underlying75 rfl info_node) rfl ?_
      have hb := bel_set (bel_set (bel_set (bel_set (bel_set I1.out (Nat.le_refl _) (i := 0) (.int .i64 0)) (Nat.le_refl _) (i := 1) (.int .i64 (k : Int))) (Nat.le_refl _) (i := 2) (.slice none 0 0)) (Nat.le_refl _) (i := 3) (.slice none 0 0)) (Nat.le_refl _) (i := 4) (.slice Ai l.length ci)
      refine ⟨_, rfl, ?_, hb⟩
      have hne : ∀ q, (Value.slice Ai l.length ci).ownBlock = some q → q ≠ w.heap.size := fun q e => by have := (World.ownsRow.lt I4.out q e).1; have := LT.out; omega
      refine KR0.own (base := kn + 1) (Dk.owns_of_block I4.out fun q hq => ?_) (I5.out.kf (kfb hb)) (fun q hq => by have := HF.out q hq; have := LT.out; omega) (by have := LT.out; omega)
      have hq := hne q hq
      iterate 5 first | exact (Below.heap_setCell _ _ _ _ hq).trans ?_ | (refine (Below.heap_setCell _ _ _ _ hq).trans ?_)
      rfl
end
end Go.Proofs.YtcjokkjepgfinaaGreatDoor.Tr
