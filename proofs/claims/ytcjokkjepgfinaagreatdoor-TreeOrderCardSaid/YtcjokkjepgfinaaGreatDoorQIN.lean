import Derived.Test.YtcjokkjepgfinaaGreatDoorQIK
import Derived.Test.YtcjokkjepgfinaaGreatDoorQID
import Derived.Deep.RegionHeld3
import Derived.BigQuiet
import Derived.Test.YtcjokkjepgfinaaGreatDoorQHI
import Derived.Test.YtcjokkjepgfinaaGreatDoorQHJ
set_option linter.unusedVariables false
set_option linter.unusedSimpArgs false
namespace Go.Proofs.YtcjokkjepgfinaaGreatDoor.Tr
set_option maxRecDepth 8000
open Go.RowKit Mem Sk
open Dk (Fr)
attribute [local go_sem] Oper.semAt_some
theorem nodeAt_leaf (key : By) {k : Nat} (l : Its k) : nodeAt key k l k = ⟨0, leafOf key k l⟩ := by
  induction k with
  | zero => rfl
  | succ k ih => exact ih _
section
variable {B : Nat} {W w w' : World} {sb db : Nat} {y : SLay} {s : Sto} {yd : Dk.Lay} {d : Dk.Dsk} {m : Nat} {F : Nat → Prop} {N : Nat} {v : Value} {key : By}
def Wh (w X : World) (sb : Nat) (g : List Nat) (nb : Option Nat) : Prop :=
  Below w.heap.size w X ∧ w.heap.size + 2 ≤ X.heap.size ∧ (∃ gv, Ed X w.heap.size w.heap.size sb gv g ∧ ¬ EdB w.heap.size gv (w.heap.size + 1) ∧ ∀ n, nb = some n → ¬ EdB w.heap.size gv n) ∧ VN X (w.heap.size + 1) [.pointer (some ⟨w.heap.size, 0, none⟩)] ∧ ∀ n, nb = some n → w.heap.size + 2 ≤ n ∧ VN X n [.int .i64 0, .int .i64 0, .slice none 0 0, .slice none 0 0, .slice none 0 0]
theorem Wh.bel {w X X' : World} {sb : Nat} {g : List Nat} {nb : Option Nat} (h : Wh w X sb g nb) (hb : Below X.heap.size X X') : Wh w X' sb g nb := by
  obtain ⟨h1, h2, ⟨gv, h3, h4, h5⟩, h6, h7⟩ := h
  exact ⟨h1.trans (hb.mono h1.size), Nat.le_trans h2 hb.size, ⟨gv, h3.bel hb, h4, h5⟩, h6.bel hb, fun n e => ⟨(h7 n e).1, (h7 n e).2.bel hb⟩⟩
theorem Wh.box {w X : World} {sb : Nat} {g : List Nat} (h : Wh w X sb g none) : Wh w (X.alloc (.cells #[.int .i64 0, .int .i64 0, .slice none 0 0, .slice none 0 0, .slice none 0 0] 75)) sb g (some X.heap.size) := by
  obtain ⟨h1, h2, ⟨gv, h3, h4, h5⟩, h6, h7⟩ := h.bel (box1 X (.cells #[.int .i64 0, .int .i64 0, .slice none 0 0, .slice none 0 0, .slice none 0 0] 75))
  obtain ⟨_, _, ⟨gv', k3, k4, k5⟩, _, _⟩ := h
  refine ⟨h1, h2, ⟨gv', k3.bel (box1 _ _), k4, fun n e hn => ?_⟩, h6, fun n e => ?_⟩
  · injection e with e
    have := k3.foot n hn
    omega
  · injection e with e
    subst e
    exact ⟨by assumption, VN.new X #[.int .i64 0, .int .i64 0, .slice none 0 0, .slice none 0 0, .slice none 0 0] 75⟩
theorem Wh.drop {w X : World} {sb : Nat} {g : List Nat} {nb : Option Nat} (h : Wh w X sb g nb) {q : Nat} (hq : q < 65536) (hg : g.length ≤ 1000) (k : Int) (A2 A3 A4 : Option Addr) (n2 n3 n4 c2 c3 c4 : Nat) :
    Calls Tryz.prog 63 #[.pointer (some ⟨w.heap.size, 0, none⟩), .agg #[.int .i64 (q : Int), .int .i64 k, .slice A2 n2 c2, .slice A3 n3 c3, .slice A4 n4 c4]] X fun e w' =>
      e = .returned (.agg #[.int .i64 (q : Int), .int .i64 k, .slice A2 n2 c2, .slice A3 n3 c3, .slice A4 n4 c4]) ∧ Wh w w' sb (g ++ (pgo q).toList) nb := by
  obtain ⟨h1, h2, ⟨gv, h3, h4, h5⟩, h6, h7⟩ := h
  refine (dropq_any h3 h1.size hq hg k A2 A3 A4 n2 n3 n4 c2 c3 c4).mono ?_
  rintro e w' ⟨rfl, gv', E, kf⟩
  exact ⟨rfl, kf_bel h1 h1.size kf (fun b hb => ed_low h3 (Nat.le_refl _) hb) (Nat.le_refl _), Nat.le_trans h2 kf.fr.size, ⟨gv', E, (kf.free h6.lt h4).1, fun n e => (kf.free (h7 n e).2.lt (h5 n e)).1⟩, h6.kf h4 kf, fun n e => ⟨(h7 n e).1, (h7 n e).2.kf (h5 n e) kf⟩⟩
structure Lf (w wz : World) (sb nb : Nat) (q : Nat) (A2 A3 : Option Addr) (n2 n3 c2 c3 : Nat) (v : Value) : Prop where
  bel : Below w.heap.size w wz
  st : ∃ gv, Ed wz w.heap.size w.heap.size sb gv (pgo q).toList ∧ ¬ EdB w.heap.size gv (w.heap.size + 1) ∧ ¬ EdB w.heap.size gv nb
  vn : VN wz nb [.int .i64 (q : Int), .int .i64 0, .slice A2 n2 c2, .slice A3 n3 c3, v]
  tv : VN wz (w.heap.size + 1) [.pointer (some ⟨w.heap.size, 0, none⟩)]
  nlow : w.heap.size + 2 ≤ nb
theorem Wh.put {w X Y : World} {sb nb q : Nat} {g : List Nat} {A2 A3 : Option Addr} {n2 n3 c2 c3 : Nat} {v : Value} (h : Wh w X sb g (some nb)) (e : g = (pgo q).toList) (hs : X.heap.size ≤ Y.heap.size) (hbl : ∀ b, b ≠ nb → Y.heap[b]? = X.heap[b]?) (ho : Y.os = X.os ∧ Y.tape = X.tape ∧ Y.output = X.output)
    (hv : VN Y nb [.int .i64 (q : Int), .int .i64 0, .slice A2 n2 c2, .slice A3 n3 c3, v]) : Lf w Y sb nb q A2 A3 n2 n3 c2 c3 v := by
  subst e
  obtain ⟨h1, h2, ⟨gv, h3, h4, h5⟩, h6, h7⟩ := h
  obtain ⟨h8, h9⟩ := h7 nb rfl
  have hE : Ed Y w.heap.size w.heap.size sb gv (pgo q).toList := h3.turn hs (fun b hb => hbl b (fun e => h5 nb rfl (e ▸ hb)))
  exact ⟨⟨ho.1.trans h1.os, ho.2.1.trans h1.tape, ho.2.2.trans h1.output, Nat.le_trans h1.size hs, fun b hb => (hbl b (by omega)).trans (h1.block b hb)⟩,
    ⟨gv, hE, h4, h5 nb rfl⟩, hv, h6.of_block (hbl _ (by omega)) hs, h8⟩
theorem Wh.fin {w X : World} {sb nb q : Nat} {g : List Nat} (h : Wh w X sb g (some nb)) (e : g = (pgo q).toList) (A2 A3 : Option Addr) (n2 n3 c2 c3 : Nat) (v : Value) :
    Lf w (((((X.setCell ⟨nb, 0, none⟩ (.int .i64 (q : Int))).setCell ⟨nb, 1, none⟩ (.int .i64 0)).setCell ⟨nb, 2, none⟩ (.slice A2 n2 c2)).setCell ⟨nb, 3, none⟩ (.slice A3 n3 c3)).setCell ⟨nb, 4, none⟩ v) sb nb q A2 A3 n2 n3 c2 c3 v :=
  h.put e (by simp) (fun b hb => set5_block X nb b hb _ _ _ _ _) (same_trans (same_trans (same_trans (same_trans (set_same _ _ _) (set_same _ _ _)) (set_same _ _ _)) (set_same _ _ _)) (set_same _ _ _)) ((h.2.2.2.2 nb rfl).2.set5 _ _ _ _ _)
theorem Lf.first {Fk : List It → List It} {k : Nat} {l : Its k} {cs : List (List Value)} {wc w2 : World} {bt : Nat → Prop} {nb q : Nat} {A2 A3 Av : Option Addr} {n2 n3 nv c2 c3 cv : Nat} {v0 gv : Value} (hL : Lf w wc sb nb q A2 A3 n2 n3 c2 c3 v0) (E : Ed wc w.heap.size w.heap.size sb gv (pgo q).toList) (e1 : ¬ EdB w.heap.size gv (w.heap.size + 1)) (e2 : ¬ EdB w.heap.size gv nb) (hbn : bt nb)
    (h2 : ItsAt true w2 (Fo bt w.heap.size gv) N 0 (.slice Av nv cv) (Fk (leafOf key k l))) (b2 : Below wc.heap.size wc w2) {tl : List Value} (g1 : cs[k]? = some (.int .i64 (q : Int) :: tl)) (xv : Value) (t : TypeId) :
    Rnd w bt N w.heap.size nb (w.heap.size + 1) w2.heap.size w.heap.size sb xv key Fk k l cs 0 ((w2.setCell ⟨nb, 4, none⟩ (.slice Av nv cv)).alloc (.cells #[xv] t)) := by
  have hsz : (w2.setCell ⟨nb, 4, none⟩ (.slice Av nv cv)).heap.size = w2.heap.size := by simp
  have hV := (hL.vn.bel b2).set 4 (by simp) (.slice Av nv cv)
  have hT := (hL.tv.bel b2).other (p := ⟨nb, 4, none⟩) (by have := hL.nlow; show nb ≠ _; omega) (.slice Av nv cv)
  have hbl : ∀ b, b ≠ nb → (w2.setCell ⟨nb, 4, none⟩ (.slice Av nv cv)).heap[b]? = w2.heap[b]? := fun b hb => Below.heap_setCell _ _ _ _ hb
  have ho := set_same w2 ⟨nb, 4, none⟩ (.slice Av nv cv)
  have hE := E.bel b2
  have hB2 := hL.bel.trans (b2.mono hL.bel.size)
  have hfo : ¬ EdB w.heap.size gv w2.heap.size := fun h => by have := E.foot _ h; have := b2.size; omega
  generalize w2.setCell ⟨nb, 4, none⟩ (.slice Av nv cv) = Y at *
  have hb := box1 Y (.cells #[xv] t)
  have hE3 : Ed Y w.heap.size w.heap.size sb gv (pgo q).toList := hE.turn (Nat.le_of_eq hsz.symm) (fun b h => hbl b (fun e => e2 (e ▸ h)))
  have hBY : Below w.heap.size w Y := ⟨ho.1.trans hB2.os, ho.2.1.trans hB2.tape, ho.2.2.trans hB2.output, by rw [hsz]; exact hB2.size, fun b h => (hbl b (by have := hL.nlow; omega)).trans (hB2.block b h)⟩
  have hI : ItsAt true Y (Fo bt w.heap.size gv) N 0 (.slice Av nv cv) (Fk (leafOf key k l)) := h2.kf ⟨⟨ho.1, ho.2.1, ho.2.2, Nat.le_of_eq hsz.symm, fun b _ hf => hbl b (fun e => hf (.inl (e ▸ hbn)))⟩, fun _ _ h => h⟩
  refine ⟨hBY.trans (hb.mono hBY.size), ⟨leafOf key k l, q, (q : Int), tl, _, gv, A2, A3, n2, n3, c2, c3, nodeAt_leaf key l, g1, hV.bel hb, hI.kf (kfb hb), hE3.bel hb, e1, e2, hfo⟩, hT.bel hb, ?_⟩
  rw [← hsz]; exact VN.new Y #[xv] t
def stvOf (cs : List (List Value)) (x : Nat) : Value := match cs[x]? with
  | some c => .agg c.toArray
  | none => .agg #[]
theorem stv_of {cs : List (List Value)} {x : Nat} {c : List Value} (h : cs[x]? = some c) : stvOf cs x = .agg c.toArray := by unfold stvOf; rw [h]
theorem steps_way {k b o : Nat} {cs : List (List Value)} (hcell : ∀ i j x u, cs[i]? = some x → x[j]? = some u → w.cell? ⟨b, o + i * 6 + j, none⟩ = some u) (hst : ∀ x, x < k → ∃ (kc : Nat) (lc : Its kc) (c : List Value) (pj : Nat), cs[x]? = some c ∧ StepAt w F N key s d kc lc c pj) : Steps w b o k (stvOf cs) := fun x hx => by
  obtain ⟨kc, lc, c, pj, h1, h2⟩ := hst x hx
  obtain ⟨A2, A3, A4, n2, n4, c2, c3, c4, lo, hi, m, at', rfl, _⟩ := h2.cells
  exact ⟨pj, kc, at', A2, A3, A4, n2, _, n4, c2, c3, c4, stv_of h1, hcell x 0 _ _ h1 rfl, hcell x 1 _ _ h1 rfl, hcell x 2 _ _ h1 rfl, hcell x 3 _ _ h1 rfl, hcell x 4 _ _ h1 rfl, hcell x 5 _ _ h1 rfl⟩
theorem way_all {k p mm : Nat} {lo hi : By} {l : Its k} {cs : List (List Value)} (hw : Wy w F N key k p lo hi l cs) (ho : Ok k mm lo hi l) (hk : inS lo hi key = true) (hp : Pgs s d k l) (hp9 : p < 65536) :
    ∀ x, x ≤ k → ∃ (kc : Nat) (lc : Its kc) (c : List Value) (pj : Nat), kc + x = k ∧ nodeAt key k l x = ⟨kc, lc⟩ ∧ cs[x]? = some c ∧ StepAt w F N key s d kc lc c pj ∧ pj < 65536 := by
  intro x hx
  obtain ⟨kc, lc, c, pj, h1, h2, h3, h4, h5⟩ := way_at hw ho hk hp x hx
  refine ⟨kc, lc, c, pj, h1, h2, h3, h4, ?_⟩
  cases x with
  | zero => rw [h5 rfl]; exact hp9
  | succ x =>
    obtain ⟨kd, ld, c', pj', g1, g2, g3, g4, g5⟩ := way_at hw ho hk hp x (by omega)
    obtain ⟨kd, rfl⟩ : ∃ z, kd = z + 1 := ⟨kd - 1, by omega⟩
    obtain ⟨A2, A3, A4, n2, n4, c2, c3, c4, lo', hi', m', at', rfl, _⟩ := h4.cells
    obtain ⟨u, hu, hpu⟩ := way_page (pj := 0) hw ho hk g2 h3
    obtain ⟨⟨q, e1, e2, _⟩, _⟩ := g4.pgs u (List.mem_of_getElem? hu)
    rw [hpu] at e1
    injection e1 with e1
    omega
theorem mkT_eta {k : Nat} (t : T k) : mkT (pg t) (sub t) = t := rfl
theorem kid_page {k p mm : Nat} {lo hi : By} {l : Its k} {cs : List (List Value)} (hw : Wy w F N key k p lo hi l cs) (ho : Ok k mm lo hi l) (hk : inS lo hi key = true) {x kc q : Nat} {lc : Its (kc + 1)} (hn : nodeAt key k l x = ⟨kc + 1, lc⟩) (hpg : Pgs s d (kc + 1) lc) {tl : List Value} (hc : cs[x + 1]? = some (.int .i64 (q : Int) :: tl)) :
    kidAt lc (toward lc key) = mkT (pgo q) (sub (kidAt lc (toward lc key))) := by
  obtain ⟨u, hu, hpu⟩ := way_page (pj := 0) hw ho hk hn hc
  obtain ⟨⟨q', e1, e2, e3, _⟩, _⟩ := hpg u (List.mem_of_getElem? hu)
  rw [hpu] at e1
  injection e1 with e1
  rw [kidAt_of hu, show pgo q = some q from if_neg (by omega), ← hpu, mkT_eta]
theorem leaf_page {k p q : Nat} {l : Its k} {cs : List (List Value)} (hw : Wy w F N key k p [] [] l cs) (t : TreeIn s d k p l) (hp9 : p < 65536) {tl : List Value} (hc : cs[k]? = some (.int .i64 (q : Int) :: tl)) : q < 65536 := by
  rcases t.ok with ⟨rfl, rfl⟩ | ho
  · obtain ⟨fv, tv, iv, rfl, _⟩ := hw
    have hc : some _ = some _ := hc
    injection hc with hc
    injection hc with hc _
    injection hc with _ hc
    omega
  · obtain ⟨kc, lc, c, pj, h1, h2, h3, h4, h5⟩ := way_all hw ho (inS_all key) t.pgs hp9 k (Nat.le_refl _)
    obtain ⟨A2, A3, A4, n2, n4, c2, c3, c4, lo', hi', m', at', rfl, _⟩ := h4.cells
    rw [hc] at h3
    injection h3 with h3
    injection h3 with h3 _
    injection h3 with _ h3
    omega
theorem below_keeps {X Y : World} (h : Below X.heap.size X Y) : KeepsOthers X Y := ⟨h.size, fun k o hk _ => (h.block k (Array.getElem?_eq_some_iff.1 hk).1).trans hk⟩
def stepAct (a : Act) (x : Nat) (sv : Value) (ab : Nat) : Act := { tmps := ((a.tmps.setIfInBounds 36 (.int .i64 (x : Int))).setIfInBounds 37 sv).setIfInBounds 13 (.pointer (some ⟨ab, 0, none⟩)), defers := [] }
def InRnd (w0 : World) (bt : Nat → Prop) (N cb nb tb xb base sb : Nat) (xv : Value) (key : By) (Fk : List It → List It) (k : Nat) (l : Its k) (cs : List (List Value)) (a : Act) (j : Nat) (a' : Act) (W : World) : Prop :=
  ∃ (ab : Nat) (c0 : Value) (ct : List Value) (lc : Its j) (q : Nat) (pn : Int) (vn gv : Value) (A2 A3 : Option Addr) (n2 n3 c2 c3 : Nat), a' = stepAct a (k - 1 - j) (stvOf cs (k - 1 - j)) ab ∧ cs[k - 1 - j]? = some (c0 :: ct) ∧ RndA w0 bt N cb nb tb xb base sb xv key Fk k l cs ab (c0 :: ct) [] j lc q pn vn gv A2 A3 n2 n3 c2 c3 W
theorem Rnd.opened {w0 X Y : World} {bt : Nat → Prop} {N cb nb tb xb base sb : Nat} {xv : Value} {Fk : List It → List It} {k : Nat} {l : Its k} {cs : List (List Value)} {j : Nat} (h : Rnd w0 bt N cb nb tb xb base sb xv key Fk k l cs j X) {av : List Value} (hv : VN Y X.heap.size av) (hb : Below X.heap.size X Y) :
    ∃ (lc : Its j) (q : Nat) (pn : Int) (vn gv : Value) (A2 A3 : Option Addr) (n2 n3 c2 c3 : Nat), RndA w0 bt N cb nb tb xb base sb xv key Fk k l cs X.heap.size av [] j lc q pn vn gv A2 A3 n2 n3 c2 c3 Y := by
  obtain ⟨lc, q, pn, tl, vn, gv, A2, A3, n2, n3, c2, c3, h1, h2, h3, h4, h5, h6, h7, h8⟩ := h.st
  exact ⟨lc, q, pn, vn, gv, A2, A3, n2, n3, c2, c3, h.bel.trans (hb.mono h.bel.size), h1, ⟨tl, h2⟩, h3.bel hb, h4.kf (kfb hb), by rw [List.append_nil]; exact h5.bel hb, h6, h7, h8, fun e => by have := h5.foot _ e; omega, h.tv.bel hb, h.xv.bel hb, hv, by have := h3.lt; omega, by have := h.tv.lt; omega, by have := h.xv.lt; omega⟩
theorem Bo_put {X : World} (bo : Bo B W X sb db y yd s d m) {D : Nat} (o : Obj) (hf : ¬ both y yd D) (hB : B ≤ D) : Bo B W (X.putObj D o) sb db y yd s d m := by
  have hs : (X.putObj D o).heap.size = X.heap.size := by simp [World.putObj]
  have hbl : ∀ b, b ≠ D → (X.putObj D o).heap[b]? = X.heap[b]? := fun b hb => World.putObj_heap_other (fun e => hb e)
  have fr : Fr (fun k => k = D) X (X.putObj D o) := ⟨rfl, rfl, rfl, Nat.le_of_eq hs.symm, fun b _ hb => hbl b hb⟩
  exact ⟨⟨bo.st.is.fr fr (fun k hk e => hf (.inr (e ▸ hk))), bo.st.good, bo.st.le, bo.st.bel.trans ⟨rfl, rfl, rfl, Nat.le_of_eq hs.symm, fun b hb => hbl b (by omega)⟩, bo.st.low, bo.st.base⟩, bo.is.fr fr (fun k hk e => hf (.inl (e ▸ hk))), bo.good, bo.apart, bo.low, bo.nn, bo.sm, bo.tabW, bo.posB⟩
structure ChgOk (B : Nat) (W : World) (sb db : Nat) (yd : Dk.Lay) (d : Dk.Dsk) (m N : Nat) (y : SLay) (w : World) (s : Sto) (L : List It) (w' : World) : Prop where
  ex : ∃ (s2 : Sto) (y2 : SLay) (m2 : Nat), Bo B W w' sb db y2 yd s2 d m2 ∧ m2 ≤ m + 3000 ∧ Was s s2 ∧ TreeOf s2.cur.now.root s2.cur.now.has (rdOf s2 d) L ∧ ∀ b, b < w.heap.size → both y2 yd b → both y yd b
  keep : ∀ b, b < N → ¬ both y yd b → w'.heap[b]? = w.heap[b]?
  size : w.heap.size ≤ w'.heap.size
  os : w'.os = w.os
  tape : w'.tape = w.tape
  output : w'.output = w.output
def Fits (s : Sto) (key : By) (Fk : List It → List It) (k : Nat) (l : Its k) : Prop :=
  chg key Fk k l = [] ∨ 1 + wk (crown k (chg key Fk k l)).1 (crown k (chg key Fk k l)).2 + (if k < (crown k (chg key Fk k l)).1 then 1 else 0) ≤ s.left
def ChgPost (B : Nat) (W : World) (sb db : Nat) (yd : Dk.Lay) (d : Dk.Dsk) (m N : Nat) (y : SLay) (w : World) (s : Sto) (key : By) (Fk : List It → List It) (k : Nat) (l : Its k) (e : Ending) (w' : World) : Prop :=
  (Fits s key Fk k l ∧ e = .returned (.tuple #[]) ∧ ChgOk B W sb db yd d m N y w s (Fk (prs k l)) w') ∨ (¬ Fits s key Fk k l ∧ e = .panicked full3 ∧ s.left < 2 * k + 4 ∧ Below w.heap.size w w')
theorem tk_of {X2 : World} {gv : Value} {g : List Nat} {D : Nat} (bo : Bo B W w sb db y yd s d m) (hgn : Sk.gone s d = false) (hBN : B ≤ N) (hN : N ≤ w.heap.size) (hb : Below w.heap.size w X2) (E : Ed X2 w.heap.size w.heap.size sb gv g) (hD1 : w.heap.size ≤ D) (hD2 : D < X2.heap.size) :
    TkIn B W sb db yd d (fun b => (b < N ∧ ¬ both y yd b) ∨ EdB w.heap.size gv b ∨ b = D) (fun b => EdB w.heap.size gv b ∨ b = D) N w.heap.size X2 s y m where
  bo := bo.keep hb
  gone := hgn
  bn := hBN
  klt := fun b h => by
    have := hb.size
    rcases h with h | h | h
    · omega
    · exact E.foot b h
    · omega
  kno := fun b h f => by
    have h2 := both_lt bo f
    rcases h with h | h | h
    · exact h.2 f
    · have := ed_low E (Nat.le_refl _) h; omega
    · omega
  kh := fun b h => h.imp_left (fun h => h.1)
  hlt := fun b h => h.elim (E.foot b) (fun h => by omega)
  c0 := E.c0
  kcb := .inr (.inl (.inl rfl))
theorem chg_end {lv : Nat} {K H : Nat → Prop} {cb D m2 : Nat} {X2 Y : World} {s2 : Sto} {y2 : SLay} {L : List It} (T : TkIn B W sb db yd d K H N cb Y s2 y2 m2) (q : Sof lv K (both y yd) X2 Y (both y2 yd)) (hbel : Below w.heap.size w X2) (hK : ∀ b, b < N → ¬ both y yd b → K b) (hKD : K D) (hD : w.heap.size ≤ D) (hN : N ≤ w.heap.size) (hBN : B ≤ N) (hm2 : m2 ≤ m + 3000) (hwas : Was s s2) (ht : TreeOf s2.cur.now.root s2.cur.now.has (rdOf s2 d) L) :
    ChgOk B W sb db yd d m N y w s L (Y.putObj D (.deferred none)) := by
  have hs : (Y.putObj D (.deferred none)).heap.size = Y.heap.size := by simp [World.putObj]
  have hbl : ∀ b, b ≠ D → (Y.putObj D (.deferred none)).heap[b]? = Y.heap[b]? := fun b hb => World.putObj_heap_other (fun e => hb e)
  exact ⟨⟨s2, y2, m2, Bo_put T.bo _ (T.kno D hKD) (by omega), hm2, hwas, ht, fun b hb h => q.foot b (Nat.lt_of_lt_of_le hb hbel.size) h⟩,
    fun b hb hf => (hbl b (by omega)).trans ((q.hard b (Nat.lt_of_lt_of_le hb (Nat.le_trans hN hbel.size)) (hK b hb hf)).trans (hbel.block b (by omega))),
    by rw [hs]; exact Nat.le_trans hbel.size q.size, (show (Y.putObj D (.deferred none)).os = Y.os from rfl).trans (q.os.trans hbel.os), (show (Y.putObj D (.deferred none)).tape = Y.tape from rfl).trans (q.tape.trans hbel.tape), (show (Y.putObj D (.deferred none)).output = Y.output from rfl).trans (q.output.trans hbel.output)⟩
theorem results_nil {fn : Func} (h : fn.results = #[]) (tmps : Array Value) (P : Program) (w : World) : (results fn tmps).run P w = .ok (.tuple #[]) w := by simp [results, h]
theorem gone_le {Fk : List It → List It} {root : Nat} {has : Nat → Bool} {f : Nat → Option By} {k : Nat} {l : Its k} (h : IsT root has f k l) (q : Nat) : (gone key Fk k (mkT (some root) l)).count q ≤ (has q).toNat := by
  have a4 := h.cnt q
  have a5 := cnt_gone (F := Fk) q (t := mkT (some root) l) h.ok (inS_all key)
  unfold cntT at a5
  rw [pg_mk, sub_mk] at a5
  have a7 : (if some root = some q then 1 else 0) = (if root = q then 1 else 0) := by simp
  omega
theorem bel_drewN (X : World) (n : Nat) : Below X.heap.size X (X.drewN n) := ⟨rfl, rfl, rfl, Nat.le_refl _, fun _ _ => rfl⟩
theorem node_mark {X X' : World} {bt : Nat → Prop} {cb D bn kc : Nat} {gv iv : Value} {nc : Its kc} (hb : Below X.heap.size X X') (hbt : ∀ b, both y yd b → bt b) (hD : ∀ i, X.cell? ⟨D, i, none⟩ = none) (hn : NodeW X (Fo bt cb gv) N bn kc iv) (hi : ItsAt true X (Fo bt cb gv) N kc iv nc) :
    NodeW X' (Or2 (fun b => EdB cb gv b ∨ b = D) (both y yd)) N bn kc iv ∧ ItsAt false X' (Or2 (fun b => EdB cb gv b ∨ b = D) (both y yd)) N kc iv nc := by
  have hf : ∀ b, Or2 (fun b => EdB cb gv b ∨ b = D) (both y yd) b → Fo bt cb gv b ∨ b = D := fun b h => by
    rcases h with (h | h) | h
    · exact .inl (.inr h)
    · exact .inr h
    · exact .inl (.inl (hbt b h))
  have kf : Kf (fun b => Fo bt cb gv b ∨ b = D) X X' (Or2 (fun b => EdB cb gv b ∨ b = D) (both y yd)) := ⟨(kfb (F := fun b => Fo bt cb gv b ∨ b = D) hb).fr, fun b _ h => hf b h⟩
  have hn' : NodeW X (fun b => Fo bt cb gv b ∨ b = D) N bn kc iv := ⟨hn.lt, fun e => e.elim hn.out (fun e => by have := hn.c0; rw [e, hD] at this; cases this), hn.low, hn.c0, hn.c1, hn.c2, hn.c3, hn.c4, hn.c5⟩
  exact ⟨hn'.kf kf, (hi.weak.avoid hD).kf kf⟩
theorem can_chg {Fk : List It → List It} (hF : Edit key Fk) {k mm : Nat} {lo hi : By} {l : Its k} (h : Ok k mm lo hi l) (hk : inS lo hi key = true) : Can k (chg key Fk k l) := by
  have hs := chg_single hF h hk
  cases k with
  | zero => trivial
  | succ k =>
    intro x hx
    obtain ⟨h1, h2⟩ := hs k rfl x hx
    refine ⟨h1, ?_⟩
    cases k with
    | zero => trivial
    | succ k => intro z hz; exact absurd (by rw [hz]; rfl) (h2 (by omega))
structure CD (d : Dk.Dsk) (s : Sto) (key : By) (Fk : List It → List It) (k p : Nat) (l : Its k) (kc : Nat) (nc : Its kc) : Prop where
  ok : Ok kc 0 [] [] nc
  lt : kc < 256
  has : Has s kc nc
  rep : Rep (rdOf s d) kc nc
  cntg : ∀ q, (gone key Fk k (mkT (pgo p) l)).count q ≤ (s.cur.now.has q).toNat
  wk : 1 + wk kc nc ≤ 2 * k + 3
  sz : nsz (chg key Fk k l) ≤ 100000000
  can : Can k (chg key Fk k l)
  fin : ∀ (p2 : Nat) (s1 s2 : Sto) (mt : Its kc) (ps : List Nat), Taken s.cur.now.has s1.cur.now.has (rdOf s d) (rdOf s1 d) ⟨kc, nc⟩ p2 mt ps → Wrote d (gone key Fk k (mkT (pgo p) l)) s1 s2 p2 → TreeOf s2.cur.now.root s2.cur.now.has (rdOf s2 d) (Fk (prs k l))
theorem cd_tree {Fk : List It → List It} (hF : Edit key Fk) {k p : Nat} {l : Its k} (h : IsT p s.cur.now.has (rdOf s d) k l) (hk6 : k + 1 < 256) (hne : chg key Fk k l ≠ []) : CD d s key Fk k p l (crown k (chg key Fk k l)).1 (crown k (chg key Fk k l)).2 := by
  have hk := inS_all key
  obtain ⟨n1, n2, n3⟩ := chg_near hF h.ok hk
  have hsz := (ok_iff.1 h.ok).1.2.2
  obtain ⟨c1, c2, c3⟩ := crown_ok n1 (by omega) hne
  have hs := chg_single hF h.ok hk
  have hp : pgo p = some p := if_neg h.r0
  refine ⟨c1, by omega, fun q hq => ?_, Rep.crown (Rep.chg h.rep), fun q => by rw [hp]; exact gone_le h q, wanted_le hF h.old h.ok hk, by omega, can_chg hF h.ok hk, fun p2 s1 s2 mt ps ht hw => ?_⟩
  · have a5 := cnt_gone (F := Fk) q (t := mkT (some p) l) h.ok hk
    unfold cntT at a5
    rw [pg_mk, sub_mk] at a5
    have a6 := Tr.cnt_crown q hs
    have a4 := h.cnt q
    have a7 : (if some p = some q then 1 else 0) = (if p = q then 1 else 0) := by simp
    rcases e : s.cur.now.has q with _ | _
    · rw [e] at a4
      have e0 : false.toNat = 0 := rfl
      omega
    · rfl
  · rw [hp] at hw
    obtain ⟨r1, r2⟩ := h.change hF hne ht hw.less hw.same
    exact .inr ⟨_, mt, hw.root.symm ▸ r1, r2⟩
theorem cd_first {key v : By} (h1 : 1 ≤ key.length) (hl : key.length ≤ 256) (hv : v.length ≤ 1024) (hh : ∀ q, s.cur.now.has q = false) : CD d s key (fun l => putK l key v) 0 0 [] (crown 0 (chg key (fun l => putK l key v) 0 [])).1 (crown 0 (chg key (fun l => putK l key v) 0 [])).2 := by
  have hF := edit_put h1 hl hv
  have hk := inS_all key
  have e : putK [] key v = [(key, v)] := by simp [putK, lows, hasK]
  have hne : (chg key (fun l => putK l key v) 0 [] : Its 0) ≠ [] := fun h => by
    have h : putK [] key v = [] := h
    rw [e] at h; cases h
  have hnr : Near 0 [] [] (putK [] key v : Its 0) := hF.near [] [] [] (by constructor <;> first | (intro x hx; exact absurd hx (by simp)) | exact List.Pairwise.nil | trivial | (intro h; omega)) hk
  have hz := hF.size []
  have hz0 : nsz (k := 0) [] = 1 := rfl
  have hz2 : nsz (k := 0) (putK [] key v) ≤ 4011 := by have hz : nsz (k := 0) (putK [] key v) ≤ _ := hz; omega
  have hc : crown 0 (chg key (fun l => putK l key v) 0 []) = ⟨0, putK [] key v⟩ := by
    show crown 0 (putK [] key v) = _
    unfold crown
    rw [if_pos hz2]; rfl
  obtain ⟨c1, c2, c3⟩ := crown_ok hnr (by omega) hne
  have c1 : Ok (crown 0 (chg key (fun l => putK l key v) 0 [])).1 0 [] [] (crown 0 (chg key (fun l => putK l key v) 0 [])).2 := c1
  rw [hc] at c1 ⊢
  refine ⟨c1, by show 0 < 256; omega, fun q hq => absurd hq (by simp [cnt]), trivial, fun q => by simp [gone, pgo, pg_mk], by simp [Tr.wk], by show nsz (k := 0) (putK [] key v) ≤ _; omega, trivial, fun p2 s1 s2 mt ps ht hw => ?_⟩
  have hf : s.cur.now.has = fun _ => false := funext hh
  rw [hf] at ht
  obtain ⟨r1, r2⟩ := first_put (has2 := s2.cur.now.has) (f2 := rdOf s2 d) h1 hl hv ht (fun q => by
    have := hw.less q
    simp only [gone, pgo, pg_mk, if_true, Option.toList, List.count_nil, Nat.add_zero] at this
    rcases e1 : s2.cur.now.has q with _ | _ <;> rcases e2 : s1.cur.now.has q with _ | _ <;> rw [e1, e2] at this <;> first | rfl | (simp at this)) hw.same
  exact .inr ⟨0, mt, hw.root.symm ▸ r1, r2⟩
theorem Wy.first {k p : Nat} {lo hi : By} {l : Its k} {cs : List (List Value)} (hw : Wy w F N key k p lo hi l cs) : ∃ tl, cs[0]? = some (.int .i64 (p : Int) :: .int .i64 (k : Int) :: tl) := by
  cases k with
  | zero => obtain ⟨a, b, c, rfl, _⟩ := hw; exact ⟨_, rfl⟩
  | succ k => obtain ⟨a, b, c, _, _, _, rfl, _⟩ := hw; exact ⟨_, rfl⟩
theorem Rnd.last {w0 X : World} {bt : Nat → Prop} {N' cb nb tb xb base sb : Nat} {xv : Value} {Fk : List It → List It} {k p : Nat} {lo hi : By} {l : Its k} {cs : List (List Value)} (h : Rnd w0 bt N' cb nb tb xb base sb xv key Fk k l cs k X) (hy : Wy w F N key k p lo hi l cs) :
    ∃ (pn : Int) (A A2 A3 : Option Addr) (ca n2 n3 c2 c3 : Nat) (gv : Value), VN X nb [.int .i64 pn, .int .i64 (k : Int), .slice A2 n2 c2, .slice A3 n3 c3, .slice A (chg key Fk k l).length ca] ∧ ItsAt true X (Fo bt cb gv) N' k (.slice A (chg key Fk k l).length ca) (chg key Fk k l) ∧ Ed X base cb sb gv (gone key Fk k (mkT (pgo p) l)) ∧ ¬ EdB cb gv tb ∧ ¬ EdB cb gv nb := by
  obtain ⟨lc, q, pn, tl, vn, gv, A2, A3, n2, n3, c2, c3, h1, h2, h3, h4, h5, h6, h7, h8⟩ := h.st
  rw [Nat.sub_self, nodeAt_zero] at h1
  injection h1 with _ h1
  subst h1
  obtain ⟨tl', hf⟩ := hy.first
  rw [Nat.sub_self, hf] at h2
  injection h2 with h2
  injection h2 with h2 _
  injection h2 with _ h2
  obtain rfl : p = q := by omega
  obtain ⟨A, ca, rfl, _, _⟩ := h4.form
  exact ⟨pn, A, A2, A3, ca, n2, n3, c2, c3, gv, h3, h4, h5, h6, h7⟩
set_option maxRecDepth 100000 in
set_option maxHeartbeats 1500000 in
theorem change_any {Fk : List It → List It} (hF : Edit key Fk) {k p : Nat} {l : Its k} {cs : List (List Value)} {i old : Nat} {nw : Its 0} {Ai : Option Addr} {ni ci : Nat}
    (bo : Bo B W w sb db y yd s d m) (hgn : Sk.gone s d = false) (t : TreeIn s d k p l) (hp9 : p < 65536) (hN : N ≤ w.heap.size) (hBN : B ≤ N)
    (hw : WRow w F v cs) (hy : Wy w F N key k p [] [] l cs) (hit : ItsAt true w (both y yd) N 0 (.slice Ai ni ci) nw) (hi : i + old ≤ (leafOf key k l).length) (hnw : nw.length ≤ 10) (hrepl : repl (leafOf key k l) i old nw = Fk (leafOf key k l)) (hFs : ∀ b, both y yd b → F b) (hm : m < 80000000) (hk6 : k + 1 < 256) (hI : p ≠ 0 → IsT p s.cur.now.has (rdOf s d) k l) (hE : p = 0 → (∀ q, s.cur.now.has q = false) ∧ ∃ v : By, v.length ≤ 1024 ∧ 1 ≤ key.length ∧ key.length ≤ 256 ∧ Fk = fun l => putK l key v) :
    Calls Tryz.prog 35 #[v, pt sb, .int .i64 (i : Int), .int .i64 (old : Int), .slice Ai ni ci] w (ChgPost B W sb db yd d m N y w s key Fk k l) := by
  obtain ⟨b, o, c, rfl, hcs1, hcs2, hb, hfb, hz, hcell⟩ := hw
  have hlen := hy.len.1
  have hk := t.lev
  rw [hlen] at hcs1 ⊢
  obtain ⟨q, A2, A3, A4, n2, n3, c2, c3, c4, g1, g2⟩ := hy.last'
  have hq9 : q < 65536 := leaf_page hy t hp9 g1
  have HLF := Lib.hid (fun X (hb : Below w.heap.size w X) => leaf_any (by omega) ((cell_bel hb (hcell k 0 _ _ g1 rfl))) (cell_bel hb (hcell k 1 _ _ g1 rfl)) (cell_bel hb (hcell k 2 _ _ g1 rfl)) (cell_bel hb (hcell k 3 _ _ g1 rfl)) (cell_bel hb (hcell k 4 _ _ g1 rfl)) (c := c))
  obtain ⟨W0, hW0⟩ : ∃ X, X = (w.alloc (.cells #[pt sb, .slice none 0 0] 119)).alloc (.cells #[.pointer (some ⟨w.heap.size, 0, none⟩)] 117) := ⟨_, rfl⟩
  have B0 := Lib.hid (show Below w.heap.size w W0 from hW0 ▸ (box1 w _).alloc (by simp) _)
  have E0 := Lib.hid (show VN W0 w.heap.size [pt sb, .slice none 0 0] from hW0 ▸ (VN.new w _ _).alloc _)
  have T0 := Lib.hid (show VN W0 (w.heap.size + 1) [.pointer (some ⟨w.heap.size, 0, none⟩)] from by
    have := VN.new (w.alloc (.cells #[pt sb, .slice none 0 0] 119)) #[.pointer (some ⟨w.heap.size, 0, none⟩)] 117
    rw [hW0]; simpa using this)
  have ED0 := Lib.hid (show Ed W0 w.heap.size w.heap.size sb (.slice none 0 0) [] from ⟨E0.out.lt, E0.out.c 0 _ rfl, E0.out.c 1 _ rfl, E0.out.z, Dk.OwnI.nil _ _, by intro h; cases h⟩)
  have HS0 := Lib.hid (show W0.heap.size = w.heap.size + 2 by rw [hW0]; simp)
  have HW := Lib.hid hW0
  have G1 := Lib.hid g1; have G2 := Lib.hid g2
  have HCELL := Lib.hid hcell
  clear hW0 g1 g2 hcell
  refine (callsIn_wide (n := 5)).1 ?_
  refine callsIn_of_wp_marks Tryz.func35 rfl trivial ?_ rfl
  refine wpIn_wide.2 ?_
  simp only [Tryz.ntmps35, List.size_toArray, List.length_cons, List.length_nil, Nat.reduceAdd, Nat.reduceSub, Array.replicate_succ, Array.replicate_zero, List.push_toArray, List.append_toArray, List.nil_append, List.cons_append]
  go_wp2_with fail
  rw [← HW.out]
  clear HW
  go_cut [11] from 12 (fun v wz => ∃ nb, v = .pointer (some ⟨nb, 0, none⟩) ∧ Hid (Lf w wz sb nb q A2 A3 n2 n3 c2 c3 (.slice A4 (its (leafOf key k l)).length c4)))
  case first =>
    rename_i k1 J K' hJ hK'
    have HJ := Lib.hid hJ
    have HK' := Lib.hid hK'
    clear k1 hJ hK'
    refine wp_region_noPanic ?_
    refine wp_region_held_drew (S := fun X => VN X (w.heap.size + 1) [.pointer (some ⟨w.heap.size, 0, none⟩)]) (by kernel_rfl) T0.out.drew (fun hHeld => ?_)
    have F0 := Lib.hid (show Wh w W0.drew sb [] none from ⟨B0.out.drew, by have := HS0.out; show _ ≤ W0.heap.size; omega, ⟨_, ED0.out.bel (Below.refl _ _).drew, fun h => h.elim (fun e => by omega) (fun e => by cases e), fun n e => by cases e⟩, T0.out.drew, fun n e => by cases e⟩)
    generalize W0.drew = X0 at *
    refine wpAnyH_take (i := 0) (v := ?_) rfl (by kernel_rfl) (by kernel_rfl) (by kernel_rfl) (fun _ _ _ h => h) (Or.inl ⟨by rfl, ?_⟩) (by assumption) ?_
    rotate_left 1
    · intro w' hSw; have hq := hSw.c 0 _ rfl; (try dsimp only at hSw); go_simp; try (with_reducible rfl)
    try simp only [Act.put, List.getElem_toArray, List.getElem_cons_zero, List.getElem_cons_succ, List.setIfInBounds_toArray, List.set_cons_zero, List.set_cons_succ]
    refine wpAnyH_take (i := 1) (v := ?_) rfl (by kernel_rfl) (by kernel_rfl) (by kernel_rfl) (fun _ _ _ h => h) (Or.inl ⟨by rfl, ?_⟩) (by assumption) ?_
    rotate_left 1
    · intro w' hSw; (try dsimp only at hSw); go_simp; try (with_reducible rfl)
    try simp only [Act.put, List.getElem_toArray, List.getElem_cons_zero, List.getElem_cons_succ, List.setIfInBounds_toArray, List.set_cons_zero, List.set_cons_succ]
    refine wpAnyH_ready (rs := [2, 4]) (by kernel_rfl) (by simp) ?_
    refine AllReadyH.cons rfl (fun K hK => ?_) (AllReadyH.cons rfl (fun K hK => ?_) AllReadyH.nil)
    · skip
      go_simp
      refine (HLF.out _ F0.out.1).mono ?_
      rintro e w1 ⟨rfl, hb2⟩
      have F1 := Lib.hid (F0.out.bel hb2)
      clear hb2 F0 HLF hHeld
      go_wp2_with fail
      refine hK.out _ _ F1.out.2.2.2.1 (fun hHeld => ?_)
      clear hK K
      try simp only [Act.put, List.getElem_toArray, List.getElem_cons_zero, List.getElem_cons_succ, List.setIfInBounds_toArray, List.set_cons_zero, List.set_cons_succ]
      refine wpAnyH_ready (rs := [3, 4]) (by kernel_rfl) (by simp) ?_
      refine AllReadyH.cons rfl (fun K hK => ?_) (AllReadyH.cons rfl (fun K hK => ?_) AllReadyH.nil)
      · skip
        go_simp
        refine (F1.out.drop hq9 (by simp) 0 A2 A3 A4 _ _ _ _ _ _).mono ?_
        rintro e w2 ⟨rfl, hb2⟩
        have F2 := Lib.hid hb2
        clear hb2 F1 hHeld
        go_wp2_with fail
        refine hK.out _ _ F2.out.2.2.2.1 (fun hHeld => ?_)
        clear hK K
        try simp only [Act.put, List.getElem_toArray, List.getElem_cons_zero, List.getElem_cons_succ, List.setIfInBounds_toArray, List.set_cons_zero, List.set_cons_succ]
        refine wpAnyH_ready (rs := [4]) (by kernel_rfl) (by simp) ?_
        refine AllReadyH.cons rfl (fun K hK => ?_) AllReadyH.nil
        · skip
          go_simp
          have F3 := Lib.hid F2.out.box
          skip
          refine hK.out _ _ F3.out.2.2.2.1 (fun hHeld => ?_)
          clear hK K
          try simp only [Act.put, List.getElem_toArray, List.getElem_cons_zero, List.getElem_cons_succ, List.setIfInBounds_toArray, List.set_cons_zero, List.set_cons_succ]
          obtain ⟨nb, hnb⟩ : ∃ n, n = w2.heap.size := ⟨_, rfl⟩
          rw [← hnb] at F3 ⊢
          generalize World.alloc w2 _ = w3 at *
          clear hnb F2
          refine wpAnyH_ready (rs := [5]) (by kernel_rfl) (by simp) ?_
          refine AllReadyH.cons rfl (fun K hK => ?_) AllReadyH.nil
          · skip
            have u0 := (F3.out.2.2.2.2 _ rfl).2.c 0 _ rfl
            have u1 := (F3.out.2.2.2.2 _ rfl).2.c 1 _ rfl
            have u2 := (F3.out.2.2.2.2 _ rfl).2.c 2 _ rfl
            have u3 := (F3.out.2.2.2.2 _ rfl).2.c 3 _ rfl
            have u4 := (F3.out.2.2.2.2 _ rfl).2.c 4 _ rfl
            have uz := (F3.out.2.2.2.2 _ rfl).2.z
            go_simp
            have HL := Lib.hid (Wh.fin F3.out rfl A2 A3 n2 n3 c2 c3 (.slice A4 (its (leafOf key k l)).length c4))
            refine hK.out _ _ HL.out.tv (fun hHeld => ?_)
            clear hK K u0 u1 u2 u3 u4 uz
            try simp only [Act.put, List.getElem_toArray, List.getElem_cons_zero, List.getElem_cons_succ, List.setIfInBounds_toArray, List.set_cons_zero, List.set_cons_succ]
            refine wpAnyH_done (by kernel_rfl) ?_ _
            clear F3 hHeld
            generalize World.setCell _ _ _ = w9 at *
            refine NoPanic.normal ?_
            dsimp only [Exit.then]
            refine HK'.out _ _ ?_
            have hJ := HJ.out
            go_meet
            case rel => exact ⟨nb, rfl, HL⟩
      · skip
        go_simp
        have F2 := Lib.hid F1.out.box
        skip
        refine hK.out _ _ F2.out.2.2.2.1 (fun hHeld => ?_)
        clear hK K
        try simp only [Act.put, List.getElem_toArray, List.getElem_cons_zero, List.getElem_cons_succ, List.setIfInBounds_toArray, List.set_cons_zero, List.set_cons_succ]
        obtain ⟨nb, hnb⟩ : ∃ n, n = w1.heap.size := ⟨_, rfl⟩
        rw [← hnb] at F2 ⊢
        generalize World.alloc w1 _ = w2 at *
        clear hnb F1
        refine wpAnyH_ready (rs := [3]) (by kernel_rfl) (by simp) ?_
        refine AllReadyH.cons rfl (fun K hK => ?_) AllReadyH.nil
        · skip
          go_simp
          refine (F2.out.drop hq9 (by simp) 0 A2 A3 A4 _ _ _ _ _ _).mono ?_
          rintro e w3 ⟨rfl, hb2⟩
          have F3 := Lib.hid hb2
          clear hb2 F2 hHeld
          go_wp2_with fail
          refine hK.out _ _ F3.out.2.2.2.1 (fun hHeld => ?_)
          clear hK K
          try simp only [Act.put, List.getElem_toArray, List.getElem_cons_zero, List.getElem_cons_succ, List.setIfInBounds_toArray, List.set_cons_zero, List.set_cons_succ]
          refine wpAnyH_ready (rs := [5]) (by kernel_rfl) (by simp) ?_
          refine AllReadyH.cons rfl (fun K hK => ?_) AllReadyH.nil
          · skip
            have u0 := (F3.out.2.2.2.2 _ rfl).2.c 0 _ rfl
            have u1 := (F3.out.2.2.2.2 _ rfl).2.c 1 _ rfl
            have u2 := (F3.out.2.2.2.2 _ rfl).2.c 2 _ rfl
            have u3 := (F3.out.2.2.2.2 _ rfl).2.c 3 _ rfl
            have u4 := (F3.out.2.2.2.2 _ rfl).2.c 4 _ rfl
            have uz := (F3.out.2.2.2.2 _ rfl).2.z
            go_simp
            have HL := Lib.hid (Wh.fin F3.out rfl A2 A3 n2 n3 c2 c3 (.slice A4 (its (leafOf key k l)).length c4))
            refine hK.out _ _ HL.out.tv (fun hHeld => ?_)
            clear hK K u0 u1 u2 u3 u4 uz
            try simp only [Act.put, List.getElem_toArray, List.getElem_cons_zero, List.getElem_cons_succ, List.setIfInBounds_toArray, List.set_cons_zero, List.set_cons_succ]
            refine wpAnyH_done (by kernel_rfl) ?_ _
            clear F3 hHeld
            generalize World.setCell _ _ _ = w9 at *
            refine NoPanic.normal ?_
            dsimp only [Exit.then]
            refine HK'.out _ _ ?_
            have hJ := HJ.out
            go_meet
            case rel => exact ⟨nb, rfl, HL⟩
    · skip
      go_simp
      have F1 := Lib.hid F0.out.box
      skip
      refine hK.out _ _ F1.out.2.2.2.1 (fun hHeld => ?_)
      clear hK K
      try simp only [Act.put, List.getElem_toArray, List.getElem_cons_zero, List.getElem_cons_succ, List.setIfInBounds_toArray, List.set_cons_zero, List.set_cons_succ]
      obtain ⟨nb, hnb⟩ : ∃ n, n = X0.heap.size := ⟨_, rfl⟩
      rw [← hnb] at F1 ⊢
      generalize World.alloc X0 _ = w1 at *
      clear hnb F0
      refine wpAnyH_ready (rs := [2]) (by kernel_rfl) (by simp) ?_
      refine AllReadyH.cons rfl (fun K hK => ?_) AllReadyH.nil
      · skip
        go_simp
        refine (HLF.out _ F1.out.1).mono ?_
        rintro e w2 ⟨rfl, hb2⟩
        have F2 := Lib.hid (F1.out.bel hb2)
        clear hb2 F1 HLF hHeld
        go_wp2_with fail
        refine hK.out _ _ F2.out.2.2.2.1 (fun hHeld => ?_)
        clear hK K
        try simp only [Act.put, List.getElem_toArray, List.getElem_cons_zero, List.getElem_cons_succ, List.setIfInBounds_toArray, List.set_cons_zero, List.set_cons_succ]
        refine wpAnyH_ready (rs := [3]) (by kernel_rfl) (by simp) ?_
        refine AllReadyH.cons rfl (fun K hK => ?_) AllReadyH.nil
        · skip
          go_simp
          refine (F2.out.drop hq9 (by simp) 0 A2 A3 A4 _ _ _ _ _ _).mono ?_
          rintro e w3 ⟨rfl, hb2⟩
          have F3 := Lib.hid hb2
          clear hb2 F2 hHeld
          go_wp2_with fail
          refine hK.out _ _ F3.out.2.2.2.1 (fun hHeld => ?_)
          clear hK K
          try simp only [Act.put, List.getElem_toArray, List.getElem_cons_zero, List.getElem_cons_succ, List.setIfInBounds_toArray, List.set_cons_zero, List.set_cons_succ]
          refine wpAnyH_ready (rs := [5]) (by kernel_rfl) (by simp) ?_
          refine AllReadyH.cons rfl (fun K hK => ?_) AllReadyH.nil
          · skip
            have u0 := (F3.out.2.2.2.2 _ rfl).2.c 0 _ rfl
            have u1 := (F3.out.2.2.2.2 _ rfl).2.c 1 _ rfl
            have u2 := (F3.out.2.2.2.2 _ rfl).2.c 2 _ rfl
            have u3 := (F3.out.2.2.2.2 _ rfl).2.c 3 _ rfl
            have u4 := (F3.out.2.2.2.2 _ rfl).2.c 4 _ rfl
            have uz := (F3.out.2.2.2.2 _ rfl).2.z
            go_simp
            have HL := Lib.hid (Wh.fin F3.out rfl A2 A3 n2 n3 c2 c3 (.slice A4 (its (leafOf key k l)).length c4))
            refine hK.out _ _ HL.out.tv (fun hHeld => ?_)
            clear hK K u0 u1 u2 u3 u4 uz
            try simp only [Act.put, List.getElem_toArray, List.getElem_cons_zero, List.getElem_cons_succ, List.setIfInBounds_toArray, List.set_cons_zero, List.set_cons_succ]
            refine wpAnyH_done (by kernel_rfl) ?_ _
            clear F3 hHeld
            generalize World.setCell _ _ _ = w9 at *
            refine NoPanic.normal ?_
            dsimp only [Exit.then]
            refine HK'.out _ _ ?_
            have hJ := HJ.out
            go_meet
            case rel => exact ⟨nb, rfl, HL⟩
  case rest =>
    obtain ⟨nb, rfl, HL⟩ := hcut
    obtain ⟨gv, E, e1, e2⟩ := HL.out.st
    obtain ⟨bt, hbt⟩ : ∃ bt : Nat → Prop, ∀ b, bt b ↔ (both y yd b ∨ b = nb ∨ b = w.heap.size + 1) := ⟨_, fun _ => Iff.rfl⟩
    have BT := Lib.hid hbt
    have hlow : ∀ b, Fo bt w.heap.size gv b → both y yd b ∨ w.heap.size ≤ b := fun b h => by
      have := HL.out.nlow
      rcases h with h | h
      · rcases (BT.out b).1 h with h | h | h
        · exact .inl h
        · exact .inr (by omega)
        · exact .inr (by omega)
      · exact .inr (ed_low E (Nat.le_refl _) h)
    have hlt : ∀ b, Fo bt w.heap.size gv b → b < wc.heap.size := fun b h => by
      rcases h with h | h
      · rcases (BT.out b).1 h with h | h | h
        · exact Nat.lt_of_lt_of_le (both_lt bo h) HL.out.bel.size
        · rw [h]; exact HL.out.vn.lt
        · rw [h]; exact HL.out.tv.lt
      · exact E.foot b h
    have LI : ItsAt true wc (Fo bt w.heap.size gv) N 0 (.slice A4 (its (leafOf key k l)).length c4) (leafOf key k l) := KR0.items (((KR0.outer G2.out).kf (kfb HL.out.bel)).mono fun b h => (hlow b h).imp (hFs b) id) trivial
    have NI : ItsAt true wc (Fo bt w.heap.size gv) N 0 (.slice Ai ni ci) nw := hit.kf ⟨(kfb (F := both y yd) HL.out.bel).fr, fun b hb h => (hlow b h).resolve_right (by omega)⟩
    have RP := Lib.hid (repl_any LI NI hi (by have h1 := (t.leaf key).2.1; have h2 := len_le_isum (its (leafOf key k l)); rw [its_length] at h2; omega) hlt (Nat.le_trans hN HL.out.bel.size))
    have HE := Lib.hid E; have HE1 := Lib.hid e1; have HE2 := Lib.hid e2; have HLT := Lib.hid hlt
    have b4 := HL.out.vn.c 4 _ rfl
    clear E e1 e2 hlt hlow LI NI hbt HLF B0 E0 T0 ED0 HS0
    go_wp2_with (first
      | (refine RP.out.mono ?_
         rintro e w2 ⟨v2, rfl, i2, hb2⟩
         obtain ⟨Av, cv, rfl, _, _⟩ := i2.form
         generalize hnv : (repl (leafOf key k l) i old nw).length = nv at *
         clear hnv
         have I2 := Lib.hid i2; have B2 := Lib.hid hb2
         have V2 := Lib.hid (HL.out.vn.bel hb2)
         have c4' := V2.out.c 4 _ rfl
         have z4' := V2.out.z 4
         clear i2 hb2 b4 RP)
      | fail)
    have R0 := Lib.hid (Lf.first HL.out HE.out HE1.out HE2.out ((BT.out nb).2 (.inr (.inl rfl))) (hrepl ▸ I2.out) B2.out G1.out (.slice (some ⟨b, o, none⟩) k c) 68)
    refine (backward_any (some ⟨b, o, none⟩) k c _).mono ?_
    rintro e w4 ⟨rfl, hw4⟩
    rw [← hw4] at R0
    have hsz : (w2.setCell ⟨nb, 4, none⟩ (.slice Av nv cv)).heap.size = w2.heap.size := by simp
    rw [hsz]
    have HNB := Lib.hid (show nb < w2.heap.size from V2.out.lt)
    have S4 := Lib.hid (show w4.heap.size = w2.heap.size + 1 by rw [hw4]; simp)
    clear hsz hw4 c4' z4'
    have WA := Lib.hid (show ∀ x, x < k → ∃ (kc : Nat) (lc : Its kc) (c : List Value) (pj : Nat), kc + x = k ∧ nodeAt key k l x = ⟨kc, lc⟩ ∧ cs[x]? = some c ∧ StepAt w F N key s d kc lc c pj ∧ pj < 65536 from fun x hx => by
      rcases t.ok with ⟨rfl, _⟩ | ho
      · omega
      · exact way_all hy ho (inS_all key) t.pgs hp9 x (by omega))
    have ST := Lib.hid (steps_way HCELL.out fun x hx => by
      obtain ⟨kc, lc, c, pj, _, _, h3, h4, _⟩ := WA.out x hx
      exact ⟨kc, lc, c, pj, h3, h4⟩)
    go_wp2_with fail
    refine (wpIn_wide (n := 5)).1 (range_down (by omega) rfl (fun _ _ => rfl) k (fun e => encS (stvOf cs) (k - 1 - e)) (fun _ => rfl) (fun e X => Rnd w bt N w.heap.size nb (w.heap.size + 1) w2.heap.size w.heap.size sb (.slice (some ⟨b, o, none⟩) k c) key Fk k l cs e X) ?hI ?hseq R0.out (fun a e a' X => InRnd w bt N w.heap.size nb (w.heap.size + 1) w2.heap.size w.heap.size sb (.slice (some ⟨b, o, none⟩) k c) key Fk k l cs a e a' X) ?hIa ?hassign ?hbody ?hdone)
    case hI =>
      intro e X X' row hR hg hr
      exact hR.other hg fun r he => ⟨Nat.le_trans R0.out.bel.size (hr r he).1, (hr r he).2⟩
    case hIa =>
      rintro e a' X X' row ⟨ab, c0, ct, lc, q, pn, vn, gv, A2, A3, n2, n3, c2, c3, h1, h2, h3⟩ hg hr
      exact ⟨ab, c0, ct, lc, q, pn, vn, gv, A2, A3, n2, n3, c2, c3, h1, h2, h3.other hg fun r he => ⟨Nat.le_trans R0.out.bel.size (hr r he).1, (hr r he).2⟩⟩
    case hseq =>
      intro lp J hJ hY X h0
      exact back_seq 4 (by omega) lp w2.heap.size b o k c (stvOf cs) (by omega) J (fun e X hX => ⟨(hJ e X hX).xv.c 0 _ rfl, ST.out.of_block ((hJ e X hX).bel.block b hb)⟩) hY X h0
    case hassign =>
      intro lp j X K1 hj hR hK
      obtain ⟨kc, la, cc, pj, h1, h2, h3, h4, h5⟩ := WA.out (k - 1 - j) (by omega)
      obtain ⟨D2, D3, D4, m2, m4, d2, d3, d4, lo, hi, mm, at', rfl, _⟩ := h4.cells
      have hsv := stv_of h3
      have HR := Lib.hid hR; have HK := Lib.hid hK; have H3 := Lib.hid h3; have HSV := Lib.hid hsv
      dsimp only [encS]
      rw [hsv]
      clear h1 h2 h3 h4 h5 hR hK hsv
      gi_wp2
      have BX := box1 X (.cells #[.int .i64 (pj : Int), .int .i64 (kc : Int), .slice D2 m2 d2, .slice D3 hi.length d3, .slice D4 m4 d4, .int .i64 (at' : Int)] 112)
      have VX := VN.new X #[.int .i64 (pj : Int), .int .i64 (kc : Int), .slice D2 m2 d2, .slice D3 hi.length d3, .slice D4 m4 d4, .int .i64 (at' : Int)] 112
      refine HK.out _ _ (below_keeps BX) ?_
      obtain ⟨lc, q, pn, vn, gv, E2, E3, f2, f3, e2, e3, hA⟩ := HR.out.opened VX BX
      refine ⟨X.heap.size, _, _, lc, q, pn, vn, gv, E2, E3, f2, f3, e2, e3, ?_, H3.out, hA⟩
      unfold stepAct
      rw [HSV.out]
      rfl
    case hbody =>
      rintro lp j a' X hj ⟨ab, x0, xt, lc, q, pn, vn, gv, E2, E3, f2, f3, g2, g3, rfl, hc, hA⟩
      obtain ⟨kc, la, cc, pj, h1, h2, h3, h4, h5⟩ := WA.out (k - 1 - j) (by omega)
      obtain rfl : kc = j + 1 := by omega
      obtain ⟨D2, D3, D4, m2, m4, d2, d3, d4, lo, hi, mm, at', rfl, hat, hto, hkr, hok, hin⟩ := h4.cells
      rw [h3] at hc
      injection hc with hc
      injection hc with hc1 hc2
      subst hc1 hc2
      simp only [stepAct, List.setIfInBounds_toArray, List.set_cons_zero, List.set_cons_succ]
      have A0 := Lib.hid hA
      clear hA
      obtain ⟨VA, vc, hvn, _, _⟩ := A0.out.it.form
      generalize hvl : (chg key Fk j lc).length = vl at hvn
      subst hvn
      clear hvl
      obtain rfl : at' = toward la key := hat (by omega)
      have ho : Ok k 0 [] [] l := t.ok.resolve_left (fun h => by have := h.1; omega)
      have hnx := nodeAt_next h2
      rw [show k - 1 - j + 1 = k - j by omega, A0.out.nd] at hnx
      injection hnx with _ hnx
      have hks := hnx
      clear hnx
      obtain ⟨tl, hctl⟩ := A0.out.hc
      have hkq := kid_page hy ho (inS_all key) h2 h4.pgs (show cs[k - 1 - j + 1]? = _ by rw [show k - 1 - j + 1 = k - j by omega]; exact hctl)
      rw [← hks] at hkq
      have hbt : ∀ b, bt b → b < w.heap.size ∨ b = nb ∨ b = w.heap.size + 1 := fun b hb => ((BT.out b).1 hb).imp_left (both_lt bo)
      have hfs : ∀ b, bt b → F b ∨ w.heap.size ≤ b := fun b hb => by
        have := HL.out.nlow
        rcases (BT.out b).1 hb with h | h | h
        · exact .inl (hFs b h)
        · exact .inr (by omega)
        · exact .inr (by omega)
      have HH := Lib.hid (fun (Y : World) (gv5 : Value) (A5 : RndA w bt N w.heap.size nb (w.heap.size + 1) w2.heap.size w.heap.size sb (.slice (some ⟨b, o, none⟩) k c) key Fk k l cs ab [.int .i64 (pj : Int), .int .i64 ((j + 1 : Nat) : Int), .slice D2 m2 d2, .slice D3 hi.length d3, .slice D4 m4 d4, .int .i64 ((toward la key : Nat) : Int)] (pgo pj).toList j lc q pn (.slice VA vl vc) gv5 E2 E3 f2 f3 g2 g3 Y) (k1 : Int) (hk1 : k1 = (j : Int) + 1) =>
        A5.hang bo rfl rfl hbt hfs hks hkq hok hin h4.pgs h4.old hF (by omega) hN hkr hto (pj : Int) k1 hk1 (B2 := D2) (m2 := m2) (d2 := d2))
      have H2 := Lib.hid (show nodeAt key k l (k - (j + 1)) = ⟨j + 1, la⟩ by rw [show k - (j + 1) = k - 1 - j by omega]; exact h2)
      have H3 := Lib.hid (show cs[k - (j + 1)]? = some [.int .i64 (pj : Int), .int .i64 ((j + 1 : Nat) : Int), .slice D2 m2 d2, .slice D3 hi.length d3, .slice D4 m4 d4, .int .i64 ((toward la key : Nat) : Int)] by rw [show k - (j + 1) = k - 1 - j by omega]; exact h3)
      have HJ := Lib.hid hj
      have H5 := Lib.hid h5
      clear h5 h1 h2 h3 h4 hat hto hkr hok hin hctl hks hkq hbt hfs ho
      generalize hil : hi.length = dl at *
      clear hil
      gi_wp2_with fail
      refine wpIn_mono (Q := fun e (_ : Act) X' => e = Exit.normal ∧ KeepsOthers X X' ∧ Rnd w bt N w.heap.size nb (w.heap.size + 1) w2.heap.size w.heap.size sb (.slice (some ⟨b, o, none⟩) k c) key Fk k l cs (j + 1) X') ?_ (fun e a X' h => by obtain ⟨rfl, h⟩ := h; exact ⟨rfl, h⟩)
      refine region_in (S := fun X' => VN X' (w.heap.size + 1) [.pointer (some ⟨w.heap.size, 0, none⟩)] ∧ VN X' ab [.int .i64 (pj : Int), .int .i64 ((j + 1 : Nat) : Int), .slice D2 m2 d2, .slice D3 dl d3, .slice D4 m4 d4, .int .i64 ((toward la key : Nat) : Int)]) (by kernel_rfl) (by kernel_rfl) (by rintro ⟨_, _, h, _⟩; cases h) ⟨A0.out.tv.drew, A0.out.pav.drew⟩ (fun hHeld => ?_)
      have HAB := Lib.hid A0.out.nab.1
      have A1 := Lib.hid (A0.out.bel' (Below.refl _ _).drew)
      have K1 := Lib.hid (KeepsOthers.drew X)
      generalize X.drew = X1 at *
      clear A0
      refine wpAnyH_take (i := 0) (v := ?_) rfl (by kernel_rfl) (by kernel_rfl) (by kernel_rfl) (fun _ _ _ h => h) (Or.inl ⟨by rfl, ?_⟩) (by assumption) ?_
      rotate_left 1
      · intro w' hSw; have hq := hSw.1.c 0 _ rfl; (try dsimp only at hSw); go_simp; try (with_reducible rfl)
      try simp only [Act.put, List.getElem_toArray, List.getElem_cons_zero, List.getElem_cons_succ, List.setIfInBounds_toArray, List.set_cons_zero, List.set_cons_succ]
      refine wpAnyH_take (i := 1) (v := ?_) rfl (by kernel_rfl) (by kernel_rfl) (by kernel_rfl) (fun _ _ _ h => h) (Or.inl ⟨by rfl, ?_⟩) (by assumption) ?_
      rotate_left 1
      · intro w' hSw; have hq := hSw.1.c 0 _ rfl; (try dsimp only at hSw); go_simp; try (with_reducible rfl)
      try simp only [Act.put, List.getElem_toArray, List.getElem_cons_zero, List.getElem_cons_succ, List.setIfInBounds_toArray, List.set_cons_zero, List.set_cons_succ]
      refine wpAnyH_take (i := 2) (v := ?_) rfl (by kernel_rfl) (by kernel_rfl) (by kernel_rfl) (fun _ _ _ h => h) (Or.inl ⟨by rfl, ?_⟩) (by assumption) ?_
      rotate_left 1
      · intro w' hSw; (try dsimp only at hSw); go_simp; try (with_reducible rfl)
      try simp only [Act.put, List.getElem_toArray, List.getElem_cons_zero, List.getElem_cons_succ, List.setIfInBounds_toArray, List.set_cons_zero, List.set_cons_succ]
      refine wpAnyH_take (i := 3) (v := ?_) rfl (by kernel_rfl) (by kernel_rfl) (by kernel_rfl) (fun _ _ _ h => h) (Or.inl ⟨by rfl, ?_⟩) (by assumption) ?_
      rotate_left 1
      · intro w' hSw; have hq0 := hSw.2.c 0 _ rfl; have hq1 := hSw.2.c 1 _ rfl; have hq2 := hSw.2.c 2 _ rfl; have hq3 := hSw.2.c 3 _ rfl; have hq4 := hSw.2.c 4 _ rfl; (try dsimp only at hSw); go_simp; try (with_reducible rfl)
      try simp only [Act.put, List.getElem_toArray, List.getElem_cons_zero, List.getElem_cons_succ, List.setIfInBounds_toArray, List.set_cons_zero, List.set_cons_succ]
      refine wpAnyH_take (i := 5) (v := ?_) rfl (by kernel_rfl) (by kernel_rfl) (by kernel_rfl) (fun _ _ _ h => h) (Or.inl ⟨by rfl, ?_⟩) (by assumption) ?_
      rotate_left 1
      · intro w' hSw; (try dsimp only at hSw); go_simp; try (with_reducible rfl)
      try simp only [Act.put, List.getElem_toArray, List.getElem_cons_zero, List.getElem_cons_succ, List.setIfInBounds_toArray, List.set_cons_zero, List.set_cons_succ]
      refine wpAnyH_take (i := 6) (v := ?_) rfl (by kernel_rfl) (by kernel_rfl) (by kernel_rfl) (fun _ _ _ h => h) (Or.inl ⟨by rfl, ?_⟩) (by assumption) ?_
      rotate_left 1
      · intro w' hSw; have hq := hSw.2.c 5 _ rfl; (try dsimp only at hSw); go_simp; try (with_reducible rfl)
      try simp only [Act.put, List.getElem_toArray, List.getElem_cons_zero, List.getElem_cons_succ, List.setIfInBounds_toArray, List.set_cons_zero, List.set_cons_succ]
      refine wpAnyH_ready (rs := [4, 7]) (by kernel_rfl) (by simp) ?_
      refine AllReadyH.cons rfl (fun K hK => ?_) (AllReadyH.cons rfl (fun K hK => ?_) AllReadyH.nil)
      · skip
        go_simp
        refine (A1.out.drop rfl rfl H5.out (by have := HJ.out; omega) _ D2 D3 D4 _ _ _ _ _ _).mono ?_
        rintro e w5 ⟨rfl, gv5, a5, k5⟩
        have A5 := Lib.hid a5; have K5 := Lib.hid (K1.out.trans k5)
        clear a5 k5 A1 K1 hHeld
        go_wp2_with fail
        refine hK.out _ _ ⟨A5.out.tv, A5.out.pav⟩ (fun hHeld => ?_)
        clear hK K
        try simp only [Act.put, List.getElem_toArray, List.getElem_cons_zero, List.getElem_cons_succ, List.setIfInBounds_toArray, List.set_cons_zero, List.set_cons_succ]
        refine wpAnyH_ready (rs := [7]) (by kernel_rfl) (by simp) ?_
        refine AllReadyH.cons rfl (fun K hK => ?_) AllReadyH.nil
        have u0 := A5.out.pvn.c 0 _ rfl
        have u1 := A5.out.pvn.c 1 _ rfl
        have u2 := A5.out.pvn.c 2 _ rfl
        have u3 := A5.out.pvn.c 3 _ rfl
        have u4 := A5.out.pvn.c 4 _ rfl
        go_simp
        refine hK.out _ _ ⟨A5.out.tv, A5.out.pav⟩ (fun hHeld => ?_)
        clear hK K u0 u1 u2 u3 u4
        try simp only [Act.put, List.getElem_toArray, List.getElem_cons_zero, List.getElem_cons_succ, List.setIfInBounds_toArray, List.set_cons_zero, List.set_cons_succ]
        refine wpAnyH_ready (rs := [8]) (by kernel_rfl) (by simp) ?_
        refine AllReadyH.cons rfl (fun K hK => ?_) AllReadyH.nil
        go_simp
        refine (HH.out _ _ A5.out _ (by push_cast; rfl)).mono ?_
        rintro e w6 ⟨v6, gv6, rfl, h6, k6⟩
        obtain ⟨V6, b6, hv6, _, _⟩ := h6.it.form
        generalize hvl : (chg key Fk (j + 1) la).length = vl6 at hv6
        subst hv6
        clear hvl
        have A6 := Lib.hid h6; have K6 := Lib.hid (K5.out.trans k6)
        clear h6 k6 A5 K5 hHeld HH
        go_wp2_with fail
        refine hK.out _ _ ⟨A6.out.tv, A6.out.pav⟩ (fun hHeld => ?_)
        clear hK K
        try simp only [Act.put, List.getElem_toArray, List.getElem_cons_zero, List.getElem_cons_succ, List.setIfInBounds_toArray, List.set_cons_zero, List.set_cons_succ]
        refine wpAnyH_ready (rs := [9]) (by kernel_rfl) (by simp) ?_
        refine AllReadyH.cons rfl (fun K hK => ?_) AllReadyH.nil
        have u0 := A6.out.pvn.c 0 _ rfl
        have u1 := A6.out.pvn.c 1 _ rfl
        have u2 := A6.out.pvn.c 2 _ rfl
        have u3 := A6.out.pvn.c 3 _ rfl
        have u4 := A6.out.pvn.c 4 _ rfl
        have uz := A6.out.pvn.z
        go_simp
        have HP := A6.out.put (k := k) (l := l) (cs := cs) (pn := (pj : Int)) (A2 := D2) (A3 := D3) (n2 := m2) (n3 := dl) (c2 := d2) (c3 := d3) (by have := HL.out.nlow; omega) (by have := HNB.out; omega) ((BT.out nb).2 (.inr (.inl rfl))) (by have := HL.out.nlow; omega) H2.out H3.out
        have VB := A6.out.pav.of_block (set5_block w6 nb ab HAB.out (.int .i64 (pj : Int)) (.int .i64 ((j + 1 : Nat) : Int)) (.slice D2 m2 d2) (.slice D3 dl d3) (.slice V6 vl6 b6)) HP.2.size
        have hj1 : ((j + 1 : Nat) : Int) = (j : Int) + 1 := by push_cast; rfl
        rw [hj1] at HP VB
        have HP' := Lib.hid HP
        clear u0 u1 u2 u3 u4 uz hHeld HP
        generalize World.setCell _ _ _ = w9 at *
        refine hK.out _ _ ⟨HP'.out.1.tv, VB⟩ (fun hHeld => ?_)
        clear hK K
        try simp only [Act.put, List.getElem_toArray, List.getElem_cons_zero, List.getElem_cons_succ, List.setIfInBounds_toArray, List.set_cons_zero, List.set_cons_succ]
        exact wpAnyH_done (by kernel_rfl) ⟨rfl, K6.out.trans HP'.out.2, HP'.out.1⟩ _
      · skip
        have u0 := A1.out.pvn.c 0 _ rfl
        have u1 := A1.out.pvn.c 1 _ rfl
        have u2 := A1.out.pvn.c 2 _ rfl
        have u3 := A1.out.pvn.c 3 _ rfl
        have u4 := A1.out.pvn.c 4 _ rfl
        go_simp
        refine hK.out _ _ ⟨A1.out.tv, A1.out.pav⟩ (fun hHeld => ?_)
        clear hK K u0 u1 u2 u3 u4
        try simp only [Act.put, List.getElem_toArray, List.getElem_cons_zero, List.getElem_cons_succ, List.setIfInBounds_toArray, List.set_cons_zero, List.set_cons_succ]
        refine wpAnyH_ready (rs := [4]) (by kernel_rfl) (by simp) ?_
        refine AllReadyH.cons rfl (fun K hK => ?_) AllReadyH.nil
        go_simp
        refine (A1.out.drop rfl rfl H5.out (by have := HJ.out; omega) _ D2 D3 D4 _ _ _ _ _ _).mono ?_
        rintro e w5 ⟨rfl, gv5, a5, k5⟩
        have A5 := Lib.hid a5; have K5 := Lib.hid (K1.out.trans k5)
        clear a5 k5 A1 K1 hHeld
        go_wp2_with fail
        refine hK.out _ _ ⟨A5.out.tv, A5.out.pav⟩ (fun hHeld => ?_)
        clear hK K
        try simp only [Act.put, List.getElem_toArray, List.getElem_cons_zero, List.getElem_cons_succ, List.setIfInBounds_toArray, List.set_cons_zero, List.set_cons_succ]
        refine wpAnyH_ready (rs := [8]) (by kernel_rfl) (by simp) ?_
        refine AllReadyH.cons rfl (fun K hK => ?_) AllReadyH.nil
        go_simp
        refine (HH.out _ _ A5.out _ (by push_cast; rfl)).mono ?_
        rintro e w6 ⟨v6, gv6, rfl, h6, k6⟩
        obtain ⟨V6, b6, hv6, _, _⟩ := h6.it.form
        generalize hvl : (chg key Fk (j + 1) la).length = vl6 at hv6
        subst hv6
        clear hvl
        have A6 := Lib.hid h6; have K6 := Lib.hid (K5.out.trans k6)
        clear h6 k6 A5 K5 hHeld HH
        go_wp2_with fail
        refine hK.out _ _ ⟨A6.out.tv, A6.out.pav⟩ (fun hHeld => ?_)
        clear hK K
        try simp only [Act.put, List.getElem_toArray, List.getElem_cons_zero, List.getElem_cons_succ, List.setIfInBounds_toArray, List.set_cons_zero, List.set_cons_succ]
        refine wpAnyH_ready (rs := [9]) (by kernel_rfl) (by simp) ?_
        refine AllReadyH.cons rfl (fun K hK => ?_) AllReadyH.nil
        have u0 := A6.out.pvn.c 0 _ rfl
        have u1 := A6.out.pvn.c 1 _ rfl
        have u2 := A6.out.pvn.c 2 _ rfl
        have u3 := A6.out.pvn.c 3 _ rfl
        have u4 := A6.out.pvn.c 4 _ rfl
        have uz := A6.out.pvn.z
        go_simp
        have HP := A6.out.put (k := k) (l := l) (cs := cs) (pn := (pj : Int)) (A2 := D2) (A3 := D3) (n2 := m2) (n3 := dl) (c2 := d2) (c3 := d3) (by have := HL.out.nlow; omega) (by have := HNB.out; omega) ((BT.out nb).2 (.inr (.inl rfl))) (by have := HL.out.nlow; omega) H2.out H3.out
        have VB := A6.out.pav.of_block (set5_block w6 nb ab HAB.out (.int .i64 (pj : Int)) (.int .i64 ((j + 1 : Nat) : Int)) (.slice D2 m2 d2) (.slice D3 dl d3) (.slice V6 vl6 b6)) HP.2.size
        have hj1 : ((j + 1 : Nat) : Int) = (j : Int) + 1 := by push_cast; rfl
        rw [hj1] at HP VB
        have HP' := Lib.hid HP
        clear u0 u1 u2 u3 u4 uz hHeld HP
        generalize World.setCell _ _ _ = w9 at *
        refine hK.out _ _ ⟨HP'.out.1.tv, VB⟩ (fun hHeld => ?_)
        clear hK K
        try simp only [Act.put, List.getElem_toArray, List.getElem_cons_zero, List.getElem_cons_succ, List.setIfInBounds_toArray, List.set_cons_zero, List.set_cons_succ]
        exact wpAnyH_done (by kernel_rfl) ⟨rfl, K6.out.trans HP'.out.2, HP'.out.1⟩ _
    case hdone =>
      intro D X hD hX hdef
      have HS4 := Lib.hid R0.out.bel.size
      clear WA ST R0 S4 V2 I2 B2 HE HE1 HE2 HLT
      have HD := Lib.hid hD; have HX := Lib.hid hX; have HDEF := Lib.hid hdef
      obtain ⟨pn, AL, E2, E3, cL, f2, f3, g2, g3, gv, hvn, hit9, hE9, he1, he2⟩ := hX.last hy
      have VNX := Lib.hid hvn; have ITX := Lib.hid hit9; have EDX := Lib.hid hE9; have HE1 := Lib.hid he1; have HE2 := Lib.hid he2
      clear hD hX hdef hvn hit9 hE9 he1 he2
      have hlow : ∀ b, Fo bt w.heap.size gv b → b < X.heap.size := fun b h => by
        rcases h with h | h
        · rcases (BT.out b).1 h with h | h | h
          · exact Nat.lt_of_lt_of_le (both_lt bo h) HX.out.bel.size
          · rw [h]; exact VNX.out.lt
          · rw [h]; exact HX.out.tv.lt
        · exact EDX.out.foot b h
      have HLOW := Lib.hid hlow
      clear hlow
      have q0 := VNX.out.c 0 _ rfl
      have q1 := VNX.out.c 1 _ rfl
      have q2 := VNX.out.c 2 _ rfl
      have q3 := VNX.out.c 3 _ rfl
      have q4 := VNX.out.c 4 _ rfl
      have t0 := HX.out.tv.c 0 _ rfl
      by_cases hne : chg key Fk k l = []
      · rw [hne] at q4
        have HNE := Lib.hid hne
        clear hne
        go_wp2_with (first
          | ((with_reducible refine (crown_nil X _ _ _ _ _ _ _ _ _ _).mono ?_); rintro e X2 ⟨rfl, hb2⟩
             have BX2 := Lib.hid hb2
             have t0 := (HX.out.tv.bel BX2.out).c 0 _ rfl
             clear hb2 q0 q1 q2 q3 q4)
          | fail)
        go_region
        go_wp2_with fail
        have hp0 : p ≠ 0 := fun e => by
          rcases t.here with ⟨_, rfl, rfl⟩ | h
          · obtain ⟨_, v, _, _, _, rfl⟩ := hE e
            have := HNE.out
            have h9 : putK [] key v = [] := this
            simp [putK, lows, hasK] at h9
          · exact h.1 e
        have BX3 : Below w.heap.size w X2.drew := (HX.out.bel.trans (BX2.out.mono HX.out.bel.size)).drew
        have hpg : pgo p = some p := if_neg hp0
        have E9 := EDX.out
        rw [hpg] at E9
        have E3 := (E9.bel BX2.out).bel (Below.refl X2.heap.size X2).drew
        have hgl := gone_len key Fk (mkT (some p) l)
        have hDX : D < X.heap.size := (Array.getElem?_eq_some_iff.1 HDEF.out).1
        have T := tk_of bo hgn hBN hN BX3 E3 (D := D) (Nat.le_trans HS4.out HD.out) (Nat.lt_of_lt_of_le hDX BX2.out.size)
        refine (write_nil T E3 (fun b h => .inr (.inl h)) (gone_le (hI hp0)) (by omega)).mono ?_
        rintro e Y ⟨rfl, s2, y2, m2, h2, h3, h4, h5⟩
        have K1 := Lib.hid (show Y.heap[D]? = some (.deferred (some [])) from (h5.hard D (Nat.lt_of_lt_of_le hDX BX2.out.size) (.inr (.inr rfl))).trans ((show X2.drew.heap[D]? = X2.heap[D]? from rfl).trans ((BX2.out.block D hDX).trans HDEF.out)))
        have hem := (hI hp0).emptied hF HNE.out h2.less
        have OK := Lib.hid (chg_end (m := m) h3 h5 BX3 (fun b h1 h2 => .inl ⟨h1, h2⟩) (.inr (.inr rfl)) (Nat.le_trans HS4.out HD.out) hN hBN (by omega) h2.was (.inl ⟨h2.root, hem.1, hem.2⟩))
        clear h2 h3 h4 h5 hem T E3 E9 BX3 hgl
        go_wp2_with fail
        refine ⟨by simp, .inl ⟨_, _, rfl, run_takeDeferred K1.out, ?_⟩⟩
        exact ⟨_, results_nil rfl _ _ _, .inl ⟨.inl HNE.out, rfl, OK.out⟩⟩
      · obtain ⟨kc, nc, hcr⟩ : ∃ (kc : Nat) (nc : Its kc), crown k (chg key Fk k l) = ⟨kc, nc⟩ := ⟨_, _, rfl⟩
        have CDX := Lib.hid (show CD d s key Fk k p l (crown k (chg key Fk k l)).1 (crown k (chg key Fk k l)).2 from by
          rcases t.here with ⟨hp, rfl, rfl⟩ | h
          · obtain ⟨hh, v, h1, h2, h3, rfl⟩ := hE hp
            subst hp
            exact cd_first h2 h3 h1 hh
          · exact cd_tree hF (hI h.1) hk6 hne)
        have HC := Lib.hid (crown_any ITX.out hne CDX.out.can CDX.out.sz hk6 HLOW.out (Nat.le_trans hN HX.out.bel.size) pn E2 E3 f2 f3 g2 g3)
        obtain ⟨tlc, hcw⟩ := hy.first
        have c01 := HCELL.out 0 1 _ _ hcw rfl
        rw [Nat.zero_mul, Nat.add_zero] at c01
        have HNE := Lib.hid hne; have HCR := Lib.hid hcr; have C01 := Lib.hid c01
        clear hne hcr hcw c01
        by_cases hsp : k < kc
        · have hd : decide ((k : Int) < (kc : Int)) = true := decide_eq_true (by omega)
          go_wp2_with (first
            | ((with_reducible refine HC.out.mono ?_); rintro e X2 ⟨bn, iv, rfl, n1, n2, hb2⟩
               have BX2 := Lib.hid hb2
               rw [HCR.out] at n1 n2
               have N1 := Lib.hid n1; have N2 := Lib.hid n2
               have t0 := (HX.out.tv.bel BX2.out).c 0 _ rfl
               have d1 := N1.out.c1
               have d2 := cell_bel (HX.out.bel.trans (BX2.out.mono HX.out.bel.size)) C01.out
               clear hb2 n1 n2 q0 q1 q2 q3 q4 HC)
            | fail)
          go_quiet (fail)
          go_wp2_with fail
          have CX := Lib.hid (show CD d s key Fk k p l kc nc from by have := CDX.out; rw [HCR.out] at this; exact this)
          have BX3 : Below w.heap.size w (X2.drewN nq) := (HX.out.bel.trans (BX2.out.mono HX.out.bel.size)).trans ((bel_drewN X2 nq).mono (HX.out.bel.trans (BX2.out.mono HX.out.bel.size)).size)
          have BX4 : Below X2.heap.size X2 (X2.drewN nq) := bel_drewN X2 nq
          have E3 := (EDX.out.bel BX2.out).bel BX4
          have hgl := gone_len key Fk (mkT (pgo p) l)
          have hDX : D < X.heap.size := (Array.getElem?_eq_some_iff.1 HDEF.out).1
          have hD2 : D < X2.heap.size := Nat.lt_of_lt_of_le hDX BX2.out.size
          have hDh : (X2.drewN nq).heap[D]? = some (.deferred (some [])) := (BX4.block D hD2).trans ((BX2.out.block D hDX).trans HDEF.out)
          have T := tk_of bo hgn hBN hN BX3 E3 (D := D) (Nat.le_trans HS4.out HD.out) (Nat.lt_of_lt_of_le hD2 BX4.size)
          have hX2D : X2.heap[D]? = some (.deferred (some [])) := (BX2.out.block D hDX).trans HDEF.out
          obtain ⟨hnd, hits⟩ := node_mark (y := y) (yd := yd) BX4 (fun b hb => (BT.out b).2 (.inl hb)) (fun i => no_cells hX2D rfl i) N1.out N2.out
          have hwk := CX.out.wk
          have hfit : Fits s key Fk k l ↔ 1 + wk kc nc + 1 ≤ s.left := by
            unfold Fits
            rw [HCR.out]
            show _ ∨ 1 + wk kc nc + (if k < kc then 1 else 0) ≤ s.left ↔ _
            rw [if_pos hsp]
            exact ⟨fun h => h.resolve_left HNE.out, .inr⟩
          by_cases hfull : 1 + wk kc nc + 1 ≤ s.left
          · have HFT := Lib.hid (hfit.2 hfull)
            clear hfit
            refine (write_node T E3 (fun b h => .inr (.inl h)) hnd hits CX.out.ok CX.out.lt CX.out.has CX.out.rep CX.out.cntg hfull (by omega)).mono ?_
            rintro e Y ⟨rfl, p2, s1, s2, y2, m2, ⟨mt, ps, h1⟩, h2, h3, h4, h5, h6⟩
            have K1 := Lib.hid (show Y.heap[D]? = some (.deferred (some [])) from (h6.hard D (Nat.lt_of_lt_of_le hD2 BX4.size) (.inr (.inr rfl))).trans hDh)
            have OK := Lib.hid (chg_end (m := m) h4 h6 BX3 (fun b h1 h2 => .inl ⟨h1, h2⟩) (.inr (.inr rfl)) (Nat.le_trans HS4.out HD.out) hN hBN (by omega) (h2.trans h3.was) (CX.out.fin p2 s1 s2 mt ps h1 h3))
            clear h1 h2 h3 h4 h5 h6 T E3 BX3 BX4 hgl hnd hits hDh hfull hwk
            go_wp2_with fail
            refine ⟨by simp, .inl ⟨_, _, rfl, run_takeDeferred K1.out, ?_⟩⟩
            exact ⟨_, results_nil rfl _ _ _, .inl ⟨HFT.out, rfl, OK.out⟩⟩
          · have HNF := Lib.hid (fun h => hfull (hfit.1 h))
            clear hfit
            refine (write_few (mn := 0) (lo := []) (hi := []) (spare := 1) T hnd hits (by omega) (by omega)).mono ?_
            rintro e Y ⟨rfl, h1⟩
            have K1 := Lib.hid (show Y.heap[D]? = some (.deferred (some [])) from (h1.block D (Nat.lt_of_lt_of_le hD2 BX4.size)).trans hDh)
            have OK := Lib.hid (show Below w.heap.size w (Y.putObj D (.deferred none)) from (BX3.trans (h1.mono BX3.size)).trans ⟨rfl, rfl, rfl, by simp [World.putObj], fun b hb => World.putObj_heap_other (by have := HS4.out; have := HD.out; omega)⟩)
            have HFL := Lib.hid (show s.left < 2 * k + 4 by omega)
            clear h1 T E3 BX3 BX4 hgl hnd hits hDh hfull hwk
            refine ⟨by simp, .inl ⟨_, _, rfl, run_takeDeferred K1.out, ?_⟩⟩
            exact .inr ⟨HNF.out, rfl, HFL.out, OK.out⟩
        · have hd : decide ((k : Int) < (kc : Int)) = false := decide_eq_false (by omega)
          go_wp2_with (first
            | ((with_reducible refine HC.out.mono ?_); rintro e X2 ⟨bn, iv, rfl, n1, n2, hb2⟩
               have BX2 := Lib.hid hb2
               rw [HCR.out] at n1 n2
               have N1 := Lib.hid n1; have N2 := Lib.hid n2
               have t0 := (HX.out.tv.bel BX2.out).c 0 _ rfl
               have d1 := N1.out.c1
               have d2 := cell_bel (HX.out.bel.trans (BX2.out.mono HX.out.bel.size)) C01.out
               clear hb2 n1 n2 q0 q1 q2 q3 q4 HC)
            | fail)
          go_quiet (fail)
          go_wp2_with fail
          have CX := Lib.hid (show CD d s key Fk k p l kc nc from by have := CDX.out; rw [HCR.out] at this; exact this)
          have BX3 : Below w.heap.size w (X2.drewN nq) := (HX.out.bel.trans (BX2.out.mono HX.out.bel.size)).trans ((bel_drewN X2 nq).mono (HX.out.bel.trans (BX2.out.mono HX.out.bel.size)).size)
          have BX4 : Below X2.heap.size X2 (X2.drewN nq) := bel_drewN X2 nq
          have E3 := (EDX.out.bel BX2.out).bel BX4
          have hgl := gone_len key Fk (mkT (pgo p) l)
          have hDX : D < X.heap.size := (Array.getElem?_eq_some_iff.1 HDEF.out).1
          have hD2 : D < X2.heap.size := Nat.lt_of_lt_of_le hDX BX2.out.size
          have hDh : (X2.drewN nq).heap[D]? = some (.deferred (some [])) := (BX4.block D hD2).trans ((BX2.out.block D hDX).trans HDEF.out)
          have T := tk_of bo hgn hBN hN BX3 E3 (D := D) (Nat.le_trans HS4.out HD.out) (Nat.lt_of_lt_of_le hD2 BX4.size)
          have hX2D : X2.heap[D]? = some (.deferred (some [])) := (BX2.out.block D hDX).trans HDEF.out
          obtain ⟨hnd, hits⟩ := node_mark (y := y) (yd := yd) BX4 (fun b hb => (BT.out b).2 (.inl hb)) (fun i => no_cells hX2D rfl i) N1.out N2.out
          have hwk := CX.out.wk
          have hfit : Fits s key Fk k l ↔ 1 + wk kc nc + 0 ≤ s.left := by
            unfold Fits
            rw [HCR.out]
            show _ ∨ 1 + wk kc nc + (if k < kc then 1 else 0) ≤ s.left ↔ _
            rw [if_neg hsp]
            exact ⟨fun h => h.resolve_left HNE.out, .inr⟩
          by_cases hfull : 1 + wk kc nc + 0 ≤ s.left
          · have HFT := Lib.hid (hfit.2 hfull)
            clear hfit
            refine (write_node T E3 (fun b h => .inr (.inl h)) hnd hits CX.out.ok CX.out.lt CX.out.has CX.out.rep CX.out.cntg hfull (by omega)).mono ?_
            rintro e Y ⟨rfl, p2, s1, s2, y2, m2, ⟨mt, ps, h1⟩, h2, h3, h4, h5, h6⟩
            have K1 := Lib.hid (show Y.heap[D]? = some (.deferred (some [])) from (h6.hard D (Nat.lt_of_lt_of_le hD2 BX4.size) (.inr (.inr rfl))).trans hDh)
            have OK := Lib.hid (chg_end (m := m) h4 h6 BX3 (fun b h1 h2 => .inl ⟨h1, h2⟩) (.inr (.inr rfl)) (Nat.le_trans HS4.out HD.out) hN hBN (by omega) (h2.trans h3.was) (CX.out.fin p2 s1 s2 mt ps h1 h3))
            clear h1 h2 h3 h4 h5 h6 T E3 BX3 BX4 hgl hnd hits hDh hfull hwk
            go_wp2_with fail
            refine ⟨by simp, .inl ⟨_, _, rfl, run_takeDeferred K1.out, ?_⟩⟩
            exact ⟨_, results_nil rfl _ _ _, .inl ⟨HFT.out, rfl, OK.out⟩⟩
          · have HNF := Lib.hid (fun h => hfull (hfit.1 h))
            clear hfit
            refine (write_few (mn := 0) (lo := []) (hi := []) (spare := 0) T hnd hits (by omega) (by omega)).mono ?_
            rintro e Y ⟨rfl, h1⟩
            have K1 := Lib.hid (show Y.heap[D]? = some (.deferred (some [])) from (h1.block D (Nat.lt_of_lt_of_le hD2 BX4.size)).trans hDh)
            have OK := Lib.hid (show Below w.heap.size w (Y.putObj D (.deferred none)) from (BX3.trans (h1.mono BX3.size)).trans ⟨rfl, rfl, rfl, by simp [World.putObj], fun b hb => World.putObj_heap_other (by have := HS4.out; have := HD.out; omega)⟩)
            have HFL := Lib.hid (show s.left < 2 * k + 4 by omega)
            clear h1 T E3 BX3 BX4 hgl hnd hits hDh hfull hwk
            refine ⟨by simp, .inl ⟨_, _, rfl, run_takeDeferred K1.out, ?_⟩⟩
            exact .inr ⟨HNF.out, rfl, HFL.out, OK.out⟩
end
end Go.Proofs.YtcjokkjepgfinaaGreatDoor.Tr
namespace Go.Proofs.YtcjokkjepgfinaaGreatDoor.Tr
set_option maxRecDepth 8000
open Go.RowKit Mem Sk
open Dk (Fr)
section
variable {B : Nat} {W w w' : World} {sb db : Nat} {y y' : SLay} {s s' : Sto} {yd yd' : Dk.Lay} {d d' : Dk.Dsk} {m m' : Nat} {F G : Nat → Prop} {N : Nat} {v : Value} {key : By}
theorem WRow.kf' {cs : List (List Value)} (h : WRow w F v cs) (hb : Below w.heap.size w w') : WRow w' F v cs := by
  obtain ⟨b, o, c, h1, h2, h3, h4, h5, h6, h7⟩ := h
  exact ⟨b, o, c, h1, h2, h3, Nat.lt_of_lt_of_le h4 hb.size, h5, fun j => (frozen_of_block (hb.block b h4) j).trans (h6 j), fun i j x u hx hu => cell_bel hb (h7 i j x u hx hu)⟩
theorem Wy.kf' {k p : Nat} {lo hi : By} {l : Its k} {cs : List (List Value)} (h : Wy w F N key k p lo hi l cs) (hb : Below w.heap.size w w') : Wy w' F N key k p lo hi l cs := by
  induction k generalizing p lo hi cs with
  | zero => obtain ⟨fv, tv, iv, e, h1, h2, h3⟩ := h; exact ⟨fv, tv, iv, e, h1.kf (kfb hb), h2.kf (kfb hb), h3.kf (kfb hb)⟩
  | succ k ih => obtain ⟨fv, tv, iv, x, r, rest, e, h1, h2, h3, h4, h5, h6⟩ := h; exact ⟨fv, tv, iv, x, r, rest, e, h1.kf (kfb hb), h2.kf (kfb hb), h3.kf (kfb hb), h4, h5, ih h6⟩
theorem its_none (w : World) (F : Nat → Prop) (N : Nat) : ItsAt true w F N 0 (.slice none 0 0) ([] : Its 0) :=
  ⟨none, 0, rfl, Nat.le_refl _, by unfold maxLen; omega, fun _ => rfl, fun h => absurd h (by simp)⟩
theorem del1_no {A3 : Option Addr} {c3 k p : Nat} {l : Its k} (bo : Bo B W w sb db y yd s d m) (hg : Sk.gone s d = false) (t : TreeIn s d k p l) (h3 : RdF w (fun _ => False) (.slice A3 key.length c3) key)
    {b0 b1 b2 : Nat} {x : Bool} (v0 : VN w b0 [pt sb]) (v1 : VN w b1 [.slice A3 key.length c3]) (v2 : VN w b2 [.bool x]) (h02 : b0 ≠ b2) (h12 : b1 ≠ b2) (hno : hasK (prs k l) key = false) :
    Calls Tryz.prog 36 #[.pointer (some ⟨b0, 0, none⟩), .pointer (some ⟨b1, 0, none⟩), .pointer (some ⟨b2, 0, none⟩)] w fun e w' => e = .returned (.tuple #[]) ∧ VN w' b2 [.bool false] ∧ But (fun q => q = b2) w w' := by
  obtain ⟨lo1, lo2, lo3, lo4⟩ := t.leaf key
  rw [← its0 (leafOf key k l)] at lo4
  have hh := lo3.symm.trans hno
  have DN := Lib.hid (fun X (hb : Below w.heap.size w X) => down_tree (bo.keep hb) hg t (h3.bel hb))
  have LV := Lib.hid t.lev
  have V0 := Lib.hid v0
  have V1 := Lib.hid v1
  have V2 := Lib.hid v2
  have H3 := Lib.hid h3
  obtain ⟨lf, hlf⟩ : ∃ lf, lf = leafOf key k l := ⟨_, rfl⟩
  rw [← hlf] at lo1 lo2 hh
  have HLF := Lib.hid hlf
  have LO := Lib.hid (And.intro lo1 lo2)
  have a0 := v0.c 0 _ rfl
  have a1 := v1.c 0 _ rfl
  have HHH := Lib.hid hh
  clear bo t lo1 lo2 lo3 lo4 hlf v0 v1 v2 h3 hg hh hno
  have t1 := trivial
  go_enter Tryz.func36, Tryz.ntmps36
  go_wp2_with (first
    | (go_at_call 31; refine (DN.out _ (Below.refl _ _)).mono ?_; rintro e w1 ⟨vv, cs, rfl, g1, g2, g3⟩; have WR := Lib.hid g1; have WY := Lib.hid g2; have B1 := Lib.hid g3; clear g1 g2 g3 a0 a1)
    | fail)
  rename_i k1
  have HK1 := Lib.hid k1
  clear k1
  refine wp_region_noPanic ?_
  refine wp_region_held_drew (S := fun X => VN X b1 [.slice A3 key.length c3]) (by kernel_rfl) (V1.out.bel B1.out).drew (fun hHeld => ?_)
  have X1 := Lib.hid (B1.out.drew)
  have R1 := Lib.hid (WR.out.kf' (Below.refl _ _).drew)
  have Y1 := Lib.hid (WY.out.kf' (Below.refl _ _).drew)
  clear WR WY B1
  generalize w1.drew = wa at *
  refine wpAnyH_take (i := 0) (v := ?_) rfl (by kernel_rfl) (by kernel_rfl) (by kernel_rfl) (fun _ _ _ h => h) (Or.inl ⟨by rfl, ?_⟩) (by assumption) ?_
  rotate_left 1
  · intro w' hSw; (try dsimp only at hSw); go_simp; try (with_reducible rfl)
  try simp only [Act.put, List.getElem_toArray, List.getElem_cons_zero, List.getElem_cons_succ, List.setIfInBounds_toArray, List.set_cons_zero, List.set_cons_succ]
  refine wpAnyH_take (i := 2) (v := ?_) rfl (by kernel_rfl) (by kernel_rfl) (by kernel_rfl) (fun _ _ _ h => h) (Or.inl ⟨by rfl, ?_⟩) (by assumption) ?_
  rotate_left 1
  · intro w' hSw; have hq := hSw.c 0 _ rfl; (try dsimp only at hSw); go_simp; try (with_reducible rfl)
  try simp only [Act.put, List.getElem_toArray, List.getElem_cons_zero, List.getElem_cons_succ, List.setIfInBounds_toArray, List.set_cons_zero, List.set_cons_succ]
  refine wpAnyH_ready (rs := [1]) (by kernel_rfl) (by simp) ?_
  refine AllReadyH.cons rfl (fun K hK => ?_) AllReadyH.nil
  go_simp
  refine (leaf_tree LV.out R1.out Y1.out).mono ?_
  rintro e wb ⟨q, A2, A4, A5, n2, n4, c2, c4, c5, rfl, g1, g2⟩
  rw [← HLF.out] at g1 ⊢
  have FN := Lib.hid (find_any (key := key) (q : Int) 0 A2 A4 n2 n4 c2 c4 (g1.kr.kf (kfb g2)) LO.out.1 (by have := LO.out.2; omega) ((H3.out.bel (X1.out.trans (g2.mono X1.out.size))).rdd))
  have BB := Lib.hid g2
  have XB := Lib.hid (X1.out.trans (g2.mono X1.out.size))
  clear g1 g2 hHeld
  go_wp2_with fail
  refine hK.out _ _ (V1.out.bel XB.out) (fun hHeld => ?_)
  clear hK K
  try simp only [Act.put, List.getElem_toArray, List.getElem_cons_zero, List.getElem_cons_succ, List.setIfInBounds_toArray, List.set_cons_zero, List.set_cons_succ]
  refine wpAnyH_ready (rs := [3]) (by kernel_rfl) (by simp) ?_
  refine AllReadyH.cons rfl (fun K hK => ?_) AllReadyH.nil
  go_simp
  refine FN.out.mono ?_
  rintro e wc ⟨rfl, hb⟩
  rw [HHH.out]
  have BC := Lib.hid hb
  have XC := Lib.hid (XB.out.trans (hb.mono XB.out.size))
  clear hb hHeld FN
  go_wp2_with fail
  refine hK.out _ _ (V1.out.bel XC.out) (fun hHeld => ?_)
  clear hK K
  try simp only [Act.put, List.getElem_toArray, List.getElem_cons_zero, List.getElem_cons_succ, List.setIfInBounds_toArray, List.set_cons_zero, List.set_cons_succ]
  refine wpAnyH_take (i := 4) (v := ?_) rfl (by kernel_rfl) (by kernel_rfl) (by kernel_rfl) (fun _ _ _ h => h) (Or.inl ⟨by rfl, ?_⟩) (by assumption) ?_
  rotate_left 1
  · intro w' hSw; (try dsimp only at hSw); go_simp; try (with_reducible rfl)
  try simp only [Act.put, List.getElem_toArray, List.getElem_cons_zero, List.getElem_cons_succ, List.setIfInBounds_toArray, List.set_cons_zero, List.set_cons_succ]
  refine wpAnyH_take (i := 5) (v := ?_) rfl (by kernel_rfl) (by kernel_rfl) (by kernel_rfl) (fun _ _ _ h => h) (Or.inl ⟨by rfl, ?_⟩) (by assumption) ?_
  rotate_left 1
  · intro w' hSw; (try dsimp only at hSw); go_simp; try (with_reducible rfl)
  try simp only [Act.put, List.getElem_toArray, List.getElem_cons_zero, List.getElem_cons_succ, List.setIfInBounds_toArray, List.set_cons_zero, List.set_cons_succ]
  refine wpAnyH_take (i := 6) (v := ?_) rfl (by kernel_rfl) (by kernel_rfl) (by kernel_rfl) (fun _ _ _ h => h) (Or.inl ⟨by rfl, ?_⟩) (by assumption) ?_
  rotate_left 1
  · intro w' hSw; (try dsimp only at hSw); go_simp; try (with_reducible rfl)
  try simp only [Act.put, List.getElem_toArray, List.getElem_cons_zero, List.getElem_cons_succ, List.setIfInBounds_toArray, List.set_cons_zero, List.set_cons_succ]
  refine wpAnyH_take (i := 7) (v := ?_) rfl (by kernel_rfl) (by kernel_rfl) (by kernel_rfl) (fun _ _ _ h => h) (Or.inl ⟨by rfl, ?_⟩) (by assumption) ?_
  rotate_left 1
  · intro w' hSw; (try dsimp only at hSw); go_simp; try (with_reducible rfl)
  try simp only [Act.put, List.getElem_toArray, List.getElem_cons_zero, List.getElem_cons_succ, List.setIfInBounds_toArray, List.set_cons_zero, List.set_cons_succ]
  refine wpAnyH_take (i := 8) (v := ?_) rfl (by kernel_rfl) (by kernel_rfl) (by kernel_rfl) (fun _ _ _ h => h) (Or.inl ⟨by rfl, ?_⟩) (by assumption) ?_
  rotate_left 1
  · intro w' hSw; (try dsimp only at hSw); go_simp; try (with_reducible rfl)
  try simp only [Act.put, List.getElem_toArray, List.getElem_cons_zero, List.getElem_cons_succ, List.setIfInBounds_toArray, List.set_cons_zero, List.set_cons_succ]
  refine wpAnyH_done (by kernel_rfl) ?_ _
  refine NoPanic.normal ?_
  dsimp only [Exit.then]
  refine HK1.out _ _ ?_
  have U2 := Lib.hid (V2.out.bel XC.out)
  have u2 := U2.out.c 0 _ rfl
  have z2 := U2.out.z 0
  have u0 := (V0.out.bel XC.out).c 0 _ rfl
  clear HK1 hHeld
  go_wp2_with fail
  go_end0
  exact ⟨rfl, U2.out.set 0 (by simp) _, (But.bel (P := fun q => q = b2) XC.out).set rfl _⟩
def DelPost (B : Nat) (W : World) (sb db : Nat) (yd : Dk.Lay) (d : Dk.Dsk) (m : Nat) (y : SLay) (w : World) (s : Sto) (key : By) (k : Nat) (l : Its k) (b2 : Nat) (e : Ending) (w' : World) : Prop :=
  ∃ wq, Below w.heap.size w wq ∧ ((Fits s key (fun l => delK l key) k l ∧ e = .returned (.tuple #[]) ∧ ∃ w8, ChgOk B W sb db yd d m w.heap.size y wq s (delK (prs k l) key) w8 ∧ w' = w8.setCell ⟨b2, 0, none⟩ (.bool true)) ∨ (¬ Fits s key (fun l => delK l key) k l ∧ e = .panicked full3 ∧ s.left < 2 * k + 4 ∧ Below wq.heap.size wq w'))
theorem del1_yes {A3 : Option Addr} {c3 k p : Nat} {l : Its k} (bo : Bo B W w sb db y yd s d m) (hg : Sk.gone s d = false) (t : TreeIn s d k p l) (h3 : RdF w (fun _ => False) (.slice A3 key.length c3) key)
    {b0 b1 b2 : Nat} {x : Bool} (v0 : VN w b0 [pt sb]) (v1 : VN w b1 [.slice A3 key.length c3]) (v2 : VN w b2 [.bool x]) (h02 : b0 ≠ b2) (h12 : b1 ≠ b2) (hno : hasK (prs k l) key = true) (hB : B ≤ w.heap.size) (hb2 : ¬ both y yd b2) (hm : m < 80000000) (hk6 : k + 1 < 256) (hI : IsT p s.cur.now.has (rdOf s d) k l) :
    Calls Tryz.prog 36 #[.pointer (some ⟨b0, 0, none⟩), .pointer (some ⟨b1, 0, none⟩), .pointer (some ⟨b2, 0, none⟩)] w (DelPost B W sb db yd d m y w s key k l b2) := by
  obtain ⟨lo1, lo2, lo3, lo4⟩ := t.leaf key
  rw [← its0 (leafOf key k l)] at lo4
  have hh := lo3.symm.trans hno
  have DN := Lib.hid (fun X (hb : Below w.heap.size w X) => down_tree (bo.keep hb) hg t (h3.bel hb))
  have LV := Lib.hid t.lev
  have V0 := Lib.hid v0
  have V1 := Lib.hid v1
  have V2 := Lib.hid v2
  have H3 := Lib.hid h3
  obtain ⟨lf, hlf⟩ : ∃ lf, lf = leafOf key k l := ⟨_, rfl⟩
  rw [← hlf] at lo1 lo2 hh
  have HLF := Lib.hid hlf
  have LO := Lib.hid (And.intro lo1 lo2)
  have a0 := v0.c 0 _ rfl
  have a1 := v1.c 0 _ rfl
  have HHH := Lib.hid hh
  have BO := Lib.hid bo; have TT := Lib.hid t; have HGN := Lib.hid hg
  clear bo t lo1 lo2 lo3 lo4 hlf v0 v1 v2 h3 hg hh
  have t1 := trivial
  go_enter Tryz.func36, Tryz.ntmps36
  go_wp2_with (first
    | (go_at_call 31; refine (DN.out _ (Below.refl _ _)).mono ?_; rintro e w1 ⟨vv, cs, rfl, g1, g2, g3⟩; have WR := Lib.hid g1; have WY := Lib.hid g2; have B1 := Lib.hid g3; clear g1 g2 g3 a0 a1)
    | fail)
  rename_i k1
  have HK1 := Lib.hid k1
  clear k1
  refine wp_region_noPanic ?_
  refine wp_region_held_drew (S := fun X => VN X b1 [.slice A3 key.length c3]) (by kernel_rfl) (V1.out.bel B1.out).drew (fun hHeld => ?_)
  have X1 := Lib.hid (B1.out.drew)
  have R1 := Lib.hid (WR.out.kf' (Below.refl _ _).drew)
  have Y1 := Lib.hid (WY.out.kf' (Below.refl _ _).drew)
  clear WR WY B1
  generalize w1.drew = wa at *
  refine wpAnyH_take (i := 0) (v := ?_) rfl (by kernel_rfl) (by kernel_rfl) (by kernel_rfl) (fun _ _ _ h => h) (Or.inl ⟨by rfl, ?_⟩) (by assumption) ?_
  rotate_left 1
  · intro w' hSw; (try dsimp only at hSw); go_simp; try (with_reducible rfl)
  try simp only [Act.put, List.getElem_toArray, List.getElem_cons_zero, List.getElem_cons_succ, List.setIfInBounds_toArray, List.set_cons_zero, List.set_cons_succ]
  refine wpAnyH_take (i := 2) (v := ?_) rfl (by kernel_rfl) (by kernel_rfl) (by kernel_rfl) (fun _ _ _ h => h) (Or.inl ⟨by rfl, ?_⟩) (by assumption) ?_
  rotate_left 1
  · intro w' hSw; have hq := hSw.c 0 _ rfl; (try dsimp only at hSw); go_simp; try (with_reducible rfl)
  try simp only [Act.put, List.getElem_toArray, List.getElem_cons_zero, List.getElem_cons_succ, List.setIfInBounds_toArray, List.set_cons_zero, List.set_cons_succ]
  refine wpAnyH_ready (rs := [1]) (by kernel_rfl) (by simp) ?_
  refine AllReadyH.cons rfl (fun K hK => ?_) AllReadyH.nil
  go_simp
  refine (leaf_tree LV.out R1.out Y1.out).mono ?_
  rintro e wb ⟨q, A2, A4, A5, n2, n4, c2, c4, c5, rfl, g1, g2⟩
  rw [← HLF.out] at g1 ⊢
  have FN := Lib.hid (find_any (key := key) (q : Int) 0 A2 A4 n2 n4 c2 c4 (g1.kr.kf (kfb g2)) LO.out.1 (by have := LO.out.2; omega) ((H3.out.bel (X1.out.trans (g2.mono X1.out.size))).rdd))
  have BB := Lib.hid g2
  have XB := Lib.hid (X1.out.trans (g2.mono X1.out.size))
  clear g1 g2 hHeld
  go_wp2_with fail
  refine hK.out _ _ (V1.out.bel XB.out) (fun hHeld => ?_)
  clear hK K
  try simp only [Act.put, List.getElem_toArray, List.getElem_cons_zero, List.getElem_cons_succ, List.setIfInBounds_toArray, List.set_cons_zero, List.set_cons_succ]
  refine wpAnyH_ready (rs := [3]) (by kernel_rfl) (by simp) ?_
  refine AllReadyH.cons rfl (fun K hK => ?_) AllReadyH.nil
  go_simp
  refine FN.out.mono ?_
  rintro e wc ⟨rfl, hb⟩
  rw [HHH.out]
  have BC := Lib.hid hb
  have XC := Lib.hid (XB.out.trans (hb.mono XB.out.size))
  clear hb hHeld FN
  go_wp2_with fail
  refine hK.out _ _ (V1.out.bel XC.out) (fun hHeld => ?_)
  clear hK K
  try simp only [Act.put, List.getElem_toArray, List.getElem_cons_zero, List.getElem_cons_succ, List.setIfInBounds_toArray, List.set_cons_zero, List.set_cons_succ]
  refine wpAnyH_take (i := 4) (v := ?_) rfl (by kernel_rfl) (by kernel_rfl) (by kernel_rfl) (fun _ _ _ h => h) (Or.inl ⟨by rfl, ?_⟩) (by assumption) ?_
  rotate_left 1
  · intro w' hSw; (try dsimp only at hSw); go_simp; try (with_reducible rfl)
  try simp only [Act.put, List.getElem_toArray, List.getElem_cons_zero, List.getElem_cons_succ, List.setIfInBounds_toArray, List.set_cons_zero, List.set_cons_succ]
  refine wpAnyH_take (i := 5) (v := ?_) rfl (by kernel_rfl) (by kernel_rfl) (by kernel_rfl) (fun _ _ _ h => h) (Or.inl ⟨by rfl, ?_⟩) (by assumption) ?_
  rotate_left 1
  · intro w' hSw; (try dsimp only at hSw); go_simp; try (with_reducible rfl)
  try simp only [Act.put, List.getElem_toArray, List.getElem_cons_zero, List.getElem_cons_succ, List.setIfInBounds_toArray, List.set_cons_zero, List.set_cons_succ]
  refine wpAnyH_take (i := 6) (v := ?_) rfl (by kernel_rfl) (by kernel_rfl) (by kernel_rfl) (fun _ _ _ h => h) (Or.inl ⟨by rfl, ?_⟩) (by assumption) ?_
  rotate_left 1
  · intro w' hSw; (try dsimp only at hSw); go_simp; try (with_reducible rfl)
  try simp only [Act.put, List.getElem_toArray, List.getElem_cons_zero, List.getElem_cons_succ, List.setIfInBounds_toArray, List.set_cons_zero, List.set_cons_succ]
  refine wpAnyH_take (i := 7) (v := ?_) rfl (by kernel_rfl) (by kernel_rfl) (by kernel_rfl) (fun _ _ _ h => h) (Or.inl ⟨by rfl, ?_⟩) (by assumption) ?_
  rotate_left 1
  · intro w' hSw; (try dsimp only at hSw); go_simp; try (with_reducible rfl)
  try simp only [Act.put, List.getElem_toArray, List.getElem_cons_zero, List.getElem_cons_succ, List.setIfInBounds_toArray, List.set_cons_zero, List.set_cons_succ]
  refine wpAnyH_take (i := 8) (v := ?_) rfl (by kernel_rfl) (by kernel_rfl) (by kernel_rfl) (fun _ _ _ h => h) (Or.inl ⟨by rfl, ?_⟩) (by assumption) ?_
  rotate_left 1
  · intro w' hSw; (try dsimp only at hSw); go_simp; try (with_reducible rfl)
  try simp only [Act.put, List.getElem_toArray, List.getElem_cons_zero, List.getElem_cons_succ, List.setIfInBounds_toArray, List.set_cons_zero, List.set_cons_succ]
  refine wpAnyH_done (by kernel_rfl) ?_ _
  refine NoPanic.normal ?_
  dsimp only [Exit.then]
  refine HK1.out _ _ ?_
  have U2 := Lib.hid (V2.out.bel XC.out)
  have u2 := U2.out.c 0 _ rfl
  have z2 := U2.out.z 0
  have u0 := (V0.out.bel XC.out).c 0 _ rfl
  clear HK1 hHeld
  go_wp2_with fail
  have BAC := Lib.hid (BB.out.trans (BC.out.mono BB.out.size))
  have hi := (getK_of HHH.out).1
  have hdel : repl (leafOf key k l) (lows (its lf) key) 1 [] = delK (leafOf key k l) key := by
    have h1 := HHH.out
    rw [its0] at h1 ⊢
    rw [← HLF.out]
    unfold repl delK
    rw [h1]; rfl
  refine (change_any (edit_del key) (BO.out.keep XC.out) HGN.out TT.out hI.r1 XC.out.size hB (R1.out.kf' BAC.out) (Y1.out.kf' BAC.out) (its_none _ _ _) (by rw [← HLF.out]; rw [its_length] at hi; omega) (by simp) hdel (fun b hb => both_lt BO.out hb) hm hk6 (fun _ => hI) (fun e => absurd e hI.r0)).mono ?_
  rintro e w8 (⟨hf, rfl, OK⟩ | ⟨hf, rfl, h2, h3⟩)
  · have HFT := Lib.hid hf
    clear hf
    have V8 := Lib.hid (U2.out.of_block (OK.keep b2 V2.out.lt hb2) OK.size)
    have O8 := Lib.hid OK
    have u2 := V8.out.c 0 _ rfl
    have z2 := V8.out.z 0
    clear OK hdel hi u0
    go_wp2_with fail
    exact ⟨rfl, _, results_nil rfl _ _ _, wc, XC.out, .inl ⟨HFT.out, rfl, w8, O8.out, rfl⟩⟩
  · exact ⟨rfl, wc, XC.out, .inr ⟨hf, rfl, h2, h3⟩⟩
end
section
variable {B : Nat} {W w w' : World} {sb db : Nat} {y y' : SLay} {s s' : Sto} {yd yd' : Dk.Lay} {d d' : Dk.Dsk} {m m' : Nat} {F G : Nat → Prop} {N : Nat} {v : Value} {key : By}
theorem hcf_del (caps : Array Value) : ∀ X, (callFunc 36 caps).run Tryz.prog X = .ok (.enter 36 caps) X := fun X => by go_simp
theorem delete_no {A3 : Option Addr} {c3 k p : Nat} {l : Its k} (bo : Bo B W w sb db y yd s d m) (hg : Sk.gone s d = false) (t : TreeIn s d k p l) (h3 : RdF w (fun _ => False) (.slice A3 key.length c3) key) (hno : hasK (prs k l) key = false) :
    Calls Tryz.prog 14 #[pt sb, .slice A3 key.length c3] w fun e w' => e = .returned (.tuple #[.bool false, .int .i64 0]) ∧ Below w.heap.size w w' := by
  obtain ⟨W0, hW0⟩ : ∃ X, X = ((w.alloc (.cells #[pt sb] 23)).alloc (.cells #[.slice A3 key.length c3] 32)).alloc (.cells #[.bool false] 4) := ⟨_, rfl⟩
  have hs0 : W0.heap.size = w.heap.size + 3 := by rw [hW0]; simp
  have B0 : Below w.heap.size w W0 := hW0 ▸ ((box1 w _).alloc (by simp) _).alloc (by simp; omega) _
  have X0 : VN W0 w.heap.size [pt sb] := hW0 ▸ ((VN.new w _ _).alloc _).alloc _
  have X1 : VN W0 (w.heap.size + 1) [.slice A3 key.length c3] := by
    have := (VN.new (w.alloc (.cells #[pt sb] 23)) #[.slice A3 key.length c3] 32).alloc (.cells #[.bool false] 4)
    rw [hW0]; simpa using this
  have X2 : VN W0 (w.heap.size + 2) [.bool false] := by
    have := VN.new ((w.alloc (.cells #[pt sb] 23)).alloc (.cells #[.slice A3 key.length c3] 32)) #[.bool false] 4
    rw [hW0]; simpa using this
  have C := Lib.hid (caught_ok (bo.keep B0) hg (f := 36) (Q := fun w' => VN w' (w.heap.size + 2) [.bool false] ∧ But (fun q => q = w.heap.size + 2) W0 w') (hcf_del _) (fun w1 hb hlt => (del1_no ((bo.keep B0).keep hb) hg t ((h3.bel B0).bel hb) (X0.bel hb) (X1.bel hb) (X2.bel hb) (by omega) (by omega) hno).mono (by
    rintro e w' ⟨rfl, h1, h2⟩
    exact ⟨rfl, ⟨h1, (But.bel hb).trans h2⟩, h2.size, h2.block _ hlt (by omega)⟩)))
  have HB0 := Lib.hid B0
  have HS := Lib.hid hs0
  have HW0 := Lib.hid hW0
  clear bo hg t h3 X0 X1 X2 B0 hs0 hW0 hno
  have hmf : ∀ (fn : Fn) (first cap : Array Value) (w : World), (Instr.makeFunc fn first cap).run Tryz.prog w = .ok (.func fn first cap) w := fun _ _ _ _ => rfl
  go_enter Tryz.func14, Tryz.ntmps14
  go_wp2_with fail
  rw [← HW0.out]
  refine C.out.mono ?_
  rintro e w5 ⟨rfl, w4, ⟨hv, hbut⟩, hO⟩
  have l2 := hv.lt
  have hss := HS.out
  have Y2 := Lib.hid (hv.of_block (hO.block _ (by omega)) (Nat.le_of_eq hO.size.symm))
  have a2 : w5.cell? ⟨w.heap.size + 1 + 1, 0, none⟩ = some (.bool false) := Y2.out.c 0 _ rfl
  have GG := Lib.hid hbut
  have OO := Lib.hid hO
  clear hbut hO l2 hss hv
  go_wp2_with fail
  have hs := HS.out
  go_ret2
  exact ⟨rfl, OO.out.bel (Below.butt HB0.out GG.out (fun q h => by omega)) (by omega)⟩
end
end Go.Proofs.YtcjokkjepgfinaaGreatDoor.Tr
