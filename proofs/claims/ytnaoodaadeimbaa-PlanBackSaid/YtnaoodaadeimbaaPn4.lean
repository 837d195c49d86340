import Derived.Test.YtnaoodaadeimbaaPn2
import Derived.Test.YtnaoodaadeimbaaPn3
namespace Go.Proofs.Ytnaoodaadeimbaa.Pl
set_option linter.unusedVariables false
set_option linter.unusedSimpArgs false
open Go.RowKit Mem Ti Mo
attribute [local go_sem] Oper.semAt_some
theorem _root_.Go.Proofs.Ytnaoodaadeimbaa.Mem.Rd.kept {W W' : World} {row : Option Nat} {B : Nat} {A : Option Addr} {c : Nat} {l : List UInt8} (h : Rd W B A c l) (hg : W.grownBy W' row) (hr : ∀ r, row = some r → ∃ o : Obj, W.heap[r]? = some o ∧ o.isCells = false) : Rd W' B A c l :=
  ⟨h.1, h.2.1, h.2.2.1, fun hn => by obtain ⟨b, o, e, hb, hc⟩ := h.2.2.2 hn; exact ⟨b, o, e, hb, fun i hi => cell_kept (hc i hi) hg hr⟩⟩
theorem bel_keeps {W W' : World} (h : Below W.heap.size W W') : KeepsOthers W W' :=
  ⟨h.size, fun k _ hk _ => (h.block k (Array.getElem?_eq_some_iff.1 hk).1).trans hk⟩
theorem boxed_bel {W W' : World} {b : Nat} {t : TypeId} {v : Value} (h : Boxed W b t v) (hb : Below W.heap.size W W') : Boxed W' b t v := (hb.block b h.lt).trans h
theorem grown_from {w0 X Y : World} {bb : Nat} {row : Option Nat} (h : w0.grownBy X (some bb)) (hg : X.grownBy Y row) (hr : ∀ r, row = some r → w0.heap.size ≤ r) : w0.grownBy Y (some bb) :=
  ⟨hg.os.trans h.os, hg.tape.trans h.tape, hg.output.trans h.output, Nat.le_trans h.size hg.size, fun k hk hne => (hg.block k (Nat.lt_of_lt_of_le hk h.size) (fun e => by have := hr k e.symm; omega)).trans (h.block k hk hne)⟩
/-- What holds between two rounds of Put's loops. -/
def PutI (w0 : World) (bb : Nat) (L : List UInt8) (W : World) : Prop := (∃ A n, Boxed W bb 26 (.slice A L.length n) ∧ Rd W W.heap.size A n L) ∧ w0.grownBy W (some bb)
theorem putI_own {α : Type} (w0 : World) (bb : Nat) (L : List α → List UInt8) : OwnFrom w0.heap.size (fun pre W => PutI w0 bb (L pre) W) :=
  fun s X Y row hs hg hr => by
    obtain ⟨⟨A, n, h1, h2⟩, h3⟩ := hs
    exact ⟨⟨A, n, boxed_own bb 26 (fun (_ : Unit) => Value.slice A (L s).length n) () X Y row h1 hg (fun r e => (hr r e).2), (h2.kept hg (fun r e => (hr r e).2)).more hg.size⟩, grown_from h3 hg (fun r e => (hr r e).1)⟩
theorem unsig_un (x : Int) : unsig x = un x := by unfold unsig un; simp [IntKind.wrap, IntKind.bits, IntKind.signed]
/-- One number more. -/
theorem PutI.step {w0 W W2 : World} {bb : Nat} {L : List UInt8} {x : Nat} (h : PutI w0 bb L W) (hb : Below W.heap.size W W2) {v : Value} (hv : Mem.Own 5 W2 W.heap.size v (L ++ be 8 x)) (hlt : bb < w0.heap.size) :
    PutI w0 bb (L ++ be 8 x) (W2.setCell ⟨bb, 0, none⟩ v) := by
  obtain ⟨⟨A, n, h1, h2⟩, h3⟩ := h
  obtain ⟨A2, n2, rfl, hr, ho, hs⟩ := hv.form
  have hb2 := boxed_bel h1 hb
  have hg : W2.grownBy (W2.setCell ⟨bb, 0, none⟩ (.slice A2 (L ++ be 8 x).length n2)) (some bb) := only_set bb 0 _
  refine ⟨⟨A2, n2, hb2.set _, ?_⟩, ?_⟩
  · have hne : ∀ a b o, A2 = some a → a = ⟨b, o, none⟩ → b ≠ bb := by
      rintro a b o rfl rfl e
      have := ho b rfl
      have := h3.size
      omega
    refine Rd.more (B := W2.heap.size) ⟨hr.1, hr.2.1, hr.2.2.1, fun hn => ?_⟩ hg.size
    obtain ⟨b, o, e, hlt2, hc⟩ := hr.2.2.2 hn
    refine ⟨b, o, e, hlt2, fun i hi => ?_⟩
    exact (World.cell?_setCell_other _ _ _ _ (fun e2 => hne _ b o e rfl (by injection e2 with e3; exact e3.symm))).trans (hc i hi)
  · exact grownBy_trans (grownBy_trans h3 (grownBy_below (some bb) hb)) hg
theorem PutI.drew {w0 W : World} {bb : Nat} {L : List UInt8} (h : PutI w0 bb L W) (n : Nat) : PutI w0 bb L (W.drewN n) :=
  have hb : Below W.heap.size W (W.drewN n) := below_drewN (Below.refl _ _) n
  ⟨by obtain ⟨⟨A, m, h1, h2⟩, _⟩ := h; exact ⟨A, m, boxed_bel h1 hb, h2.below hb⟩, grownBy_trans h.2 (grownBy_below _ hb)⟩
theorem KpP.t {Bx Bz : Nat} {A B C : World} (h : KpP Bx Bz A B) (k : KpP Bx Bz B C) : KpP Bx Bz A C := ⟨k.1.trans h.1, k.2.trans h.2⟩
theorem KpP.b {Bx Bz : Nat} {w : World} (hx : Bx < w.heap.size) (hz : Bz < w.heap.size) (W : World) (l : Nat) (o o' : Obj) (hl : w.heap.size ≤ l) (_ : W.heap[l]? = some o) (_ : o.isCells = false) (_ : o.isWalk = false) : KpP Bx Bz W (W.putObj l o') :=
  ⟨World.putObj_heap_other (by omega), World.putObj_heap_other (by omega)⟩
theorem KpP.step {Bx Bz bb : Nat} {W W2 : World} (hb : Below W.heap.size W W2) (h1 : Bx < W.heap.size) (h2 : Bz < W.heap.size) (n1 : Bx ≠ bb) (n2 : Bz ≠ bb) (v : Value) : KpP Bx Bz W (W2.setCell ⟨bb, 0, none⟩ v) :=
  ⟨(Below.heap_setCell _ _ _ _ n1).trans (hb.block _ h1), (Below.heap_setCell _ _ _ _ n2).trans (hb.block _ h2)⟩
theorem KpT.step {Bx bb : Nat} {W W2 : World} (hb : Below W.heap.size W W2) (h1 : Bx < W.heap.size) (n1 : Bx ≠ bb) (v : Value) : KpT Bx W (W2.setCell ⟨bb, 0, none⟩ v) :=
  (Below.heap_setCell _ _ _ _ n1).trans (hb.block _ h1)
theorem KpT.t {Bx : Nat} {A B C : World} (h : KpT Bx A B) (k : KpT Bx B C) : KpT Bx A C := Eq.trans k h
theorem KpT.b {Bx : Nat} {w : World} (hx : Bx < w.heap.size) (W : World) (l : Nat) (o o' : Obj) (hl : w.heap.size ≤ l) (_ : W.heap[l]? = some o) (_ : o.isCells = false) (_ : o.isWalk = false) : KpT Bx W (W.putObj l o') :=
  World.putObj_heap_other (by omega)
/-- The numbers of a plan that lie ahead of its tiers. -/
def fv (P : Pln) (k : Nat) : Int := if k = 0 then P.i else if k = 1 then P.dy else if k = 2 then P.mo else if k = 3 then P.ov else if k = 4 then P.ro else P.ba
theorem nb_snoc (l : List Nat) (x : Nat) : nb (l ++ [x]) = nb l ++ be 8 x := by rw [nb_app]; simp [nb]
theorem fv_all (P : Pln) : (List.finRange 6).map (fun x : Fin 6 => un (fv P x.1)) = [un P.i, un P.dy, un P.mo, un P.ov, un P.ro, un P.ba] := rfl
/-- What has been written when some places are over. -/
def lpl (P : Pln) (pre : List (Fin 6)) : List UInt8 := nb (pre.map fun x : Fin 6 => un (fv P x.1))
theorem lpl_snoc (P : Pln) (pre : List (Fin 6)) (x : Fin 6) : lpl P (pre ++ [x]) = lpl P pre ++ be 8 (un (fv P x.1)) := by unfold lpl; rw [List.map_append, List.map_singleton, nb_snoc]
theorem lpl_len (P : Pln) (pre : List (Fin 6)) : (lpl P pre).length = 8 * pre.length := by unfold lpl; rw [nb_len, List.length_map]
/-- The numbers of tiers, place by place. -/
def tv (u p : Nat → Int) (k : Nat) : Int := if k % 2 = 0 then u (k / 2) else p (k / 2)
def tpl (u p : Nat → Int) {m : Nat} (pre : List (Fin (2 * m))) : List UInt8 := nb (pre.map fun x => un (tv u p x.1))
theorem tpl_snoc (u p : Nat → Int) {m : Nat} (pre : List (Fin (2 * m))) (x : Fin (2 * m)) : tpl u p (pre ++ [x]) = tpl u p pre ++ be 8 (un (tv u p x.1)) := by unfold tpl; rw [List.map_append, List.map_singleton, nb_snoc]
theorem tpl_len (u p : Nat → Int) {m : Nat} (pre : List (Fin (2 * m))) : (tpl u p pre).length = 8 * pre.length := by unfold tpl; rw [nb_len, List.length_map]
theorem tn_upto (u p : Nat → Int) (m k : Nat) (hk : k ≤ m) : (upto (2 * m) (2 * k)).map (fun x => un (tv u p x.1)) = tn u p k := by
  induction k with
  | zero => rfl
  | succ k ih =>
    rw [show 2 * (k + 1) = 2 * k + 1 + 1 by omega, upto_succ (by omega), upto_succ (by omega), List.map_append, List.map_append, ih (by omega)]
    show tn u p k ++ [un (tv u p (2 * k))] ++ [un (tv u p (2 * k + 1))] = tn u p k ++ [un (u k), un (p k)]
    have e1 : tv u p (2 * k) = u k := by unfold tv; rw [if_pos (by omega), show 2 * k / 2 = k by omega]
    have e2 : tv u p (2 * k + 1) = p k := by unfold tv; rw [if_neg (by omega), show (2 * k + 1) / 2 = k by omega]
    rw [e1, e2, List.append_assoc]; rfl
theorem tpl_all (u p : Nat → Int) (m : Nat) : tpl u p (List.finRange (2 * m)) = nb (tn u p m) := by
  unfold tpl; rw [← upto_all, tn_upto u p m m (Nat.le_refl m)]
theorem bytes_eq (P : Pln) : (lpl P (List.finRange 6) ++ be 8 P.n) ++ tpl P.u P.p (List.finRange (2 * P.n)) = bytes P := by
  unfold lpl bytes nums
  rw [tpl_all, fv_all, ← nb_snoc, ← nb_app]; rfl
set_option maxRecDepth 100000 in
set_option maxHeartbeats 4000000 in
theorem Put_ok (P : Pln) (A : Option Addr) (c : Nat) (w : World) (B : Nat) (hr : RdT w B A c P.u P.p P.n) (hB : B ≤ w.heap.size) (hi : 0 ≤ P.i ∧ P.i ≤ 4294967295) (hm : May P) :
    Calls Try.prog 9 #[plv P A c] w fun e w' => ∃ A' n, e = .returned (.tuple #[.slice A' (bytes P).length n, .int .i64 0]) ∧ Rd w' w'.heap.size A' n (bytes P) ∧ Below w.heap.size w w' := by
  have C := Lib.hid (fun W (h : Below w.heap.size w W) => Check_any P A c W B (hr.below (h.mono hB)) (Nat.le_trans hB h.size) hi.1)
  rw [(may_iff P).2 hm] at C
  obtain ⟨i, dy, mo, ov, ro, ba, n, u, p⟩ := P
  unfold plv at C ⊢
  simp only at C hr hi ⊢
  obtain ⟨b, o, rfl, hb, hc⟩ := hr.2.2 hm.t.m1
  have hbl : b < w.heap.size := by omega
  have hmc : n ≤ c := hr.1
  have hc1 : c ≤ 9223372036854775807 := by have := hr.2.1; unfold maxLen at this; omega
  have HRow := Lib.hid (fun W (h : Below w.heap.size w W) k (hk : k < n) => (show W.cell? ⟨b, o + k * 2, none⟩ = some (.int .i64 (u k)) ∧ W.cell? ⟨b, o + k * 2 + 1, none⟩ = some (.int .i64 (p k)) from
    ⟨(h.cell (p := ⟨b, o + k * 2, none⟩) hbl).trans (hc k hk).1, (h.cell (p := ⟨b, o + k * 2 + 1, none⟩) hbl).trans (hc k hk).2⟩))
  have HM := Lib.hid hm
  have HI := Lib.hid hi
  clear hr hB hc hb hm
  obtain ⟨g0, g1, g2, g3, g4, g5, g6⟩ := box7 w (.int .u32 i) (.int .i64 dy) (.int .i64 mo) (.int .i64 ov) (.int .i64 ro) (.int .i64 ba) (.slice (some ⟨b, o, none⟩) n c) 25
  have ki : wrap64 i = i := by unfold wrap64; omega
  refine (callsIn_wide (n := 5)).1 ?_
  refine callsIn_of_wp_marks Try.func9 rfl trivial ?_ rfl
  simp only [Try.ntmps9, List.size_toArray, List.length_cons, List.length_nil, Nat.reduceAdd, Nat.reduceSub, Array.replicate_succ, Array.replicate_zero, List.push_toArray, List.append_toArray, List.nil_append, List.cons_append]
  gi_wp2_with fail
  refine ⟨trivial, ?_⟩
  gi_at_call 11
  refine (callsIn_wide.2 (C.out _ ((Below.refl _ _).alloc (Nat.le_refl _) _))).mono ?_
  rintro e w1 ⟨rfl, hb⟩
  have HB1 := Lib.hid (((Below.refl w.heap.size w).alloc (Nat.le_refl _) (.cells #[.int .u32 i, .int .i64 dy, .int .i64 mo, .int .i64 ov, .int .i64 ro, .int .i64 ba, .slice (some ⟨b, o, none⟩) n c] 25)).trans (hb.mono (by simp)))
  have hs1 : w.heap.size + 1 ≤ w1.heap.size := by have := hb.size; simpa using this
  have hlt : w.heap.size < (w.alloc (.cells #[.int .u32 i, .int .i64 dy, .int .i64 mo, .int .i64 ov, .int .i64 ro, .int .i64 ba, .slice (some ⟨b, o, none⟩) n c] 25)).heap.size := by simp
  have e0 := (hb.cell (p := ⟨w.heap.size, 0, none⟩) hlt).trans g0
  have e1 := (hb.cell (p := ⟨w.heap.size, 1, none⟩) hlt).trans g1
  have e2 := (hb.cell (p := ⟨w.heap.size, 2, none⟩) hlt).trans g2
  have e3 := (hb.cell (p := ⟨w.heap.size, 3, none⟩) hlt).trans g3
  have e4 := (hb.cell (p := ⟨w.heap.size, 4, none⟩) hlt).trans g4
  have e5 := (hb.cell (p := ⟨w.heap.size, 5, none⟩) hlt).trans g5
  have e6 := (hb.cell (p := ⟨w.heap.size, 6, none⟩) hlt).trans g6
  obtain ⟨s1, hs⟩ : ∃ s1, w1.heap.size = s1 := ⟨_, rfl⟩
  have q0 : (w1.alloc (.cells #[.slice none 0 0] 26)).cell? ⟨w.heap.size, 0, none⟩ = some (.int .u32 i) := ((Below.refl w1.heap.size w1).alloc (Nat.le_refl _) _ |>.cell (p := ⟨w.heap.size, 0, none⟩) (show w.heap.size < w1.heap.size by omega)).trans e0
  have HE := Lib.hid (And.intro e1 (And.intro e2 (And.intro e3 (And.intro e4 (And.intro e5 e6)))))
  clear hb g0 g1 g2 g3 g4 g5 g6 e1 e2 e3 e4 e5 e6 hlt
  gi_wp2_with (refine ⟨trivial, ?_⟩; gi_at_call 20; refine (callsIn_wide.2 (places_any _ _ _)).mono ?_; rintro e w' ⟨rfl, rfl⟩)
  obtain ⟨W0, hW0⟩ : ∃ W0, ((((w1.alloc (.cells #[.slice none 0 0] 26)).alloc (.cells #[.int .i64 i] 2)).alloc (.cells #[.pointer (some ⟨s1 + 1, 0, none⟩)] 49)).alloc (.cells #[.pointer (some ⟨w.heap.size, 0, none⟩)] 50)) = W0 := ⟨_, rfl⟩
  have hsz : W0.heap.size = s1 + 4 := by rw [← hW0, ← hs]; simp
  have hb1 : Below w1.heap.size w1 W0 := by rw [← hW0]; exact ((((Below.refl _ _).alloc (Nat.le_refl _) _).alloc (by simp) _).alloc (by simp; omega) _).alloc (by simp; omega) _
  have hB0 : Below w.heap.size w W0 := HB1.out.trans (hb1.mono HB1.out.size)
  have x1 : Boxed W0 s1 26 (.slice none 0 0) := by rw [← hW0, ← hs]; exact (((Boxed.new w1 _ _).alloc _).alloc _).alloc _
  have x2 : Boxed W0 (s1 + 1) 2 (.int .i64 i) := by
    rw [← hW0, ← hs]; have := ((Boxed.new (w1.alloc (.cells #[.slice none 0 0] 26)) 2 (.int .i64 i)).alloc (.cells #[.pointer (some ⟨w1.heap.size + 1, 0, none⟩)] 49)).alloc (.cells #[.pointer (some ⟨w.heap.size, 0, none⟩)] 50); rwa [World.size_alloc] at this
  have x3 : Boxed W0 (s1 + 1 + 1) 49 (.pointer (some ⟨s1 + 1, 0, none⟩)) := by
    rw [← hW0, ← hs]; have := (Boxed.new ((w1.alloc (.cells #[.slice none 0 0] 26)).alloc (.cells #[.int .i64 i] 2)) 49 (.pointer (some ⟨w1.heap.size + 1, 0, none⟩))).alloc (.cells #[.pointer (some ⟨w.heap.size, 0, none⟩)] 50); rwa [World.size_alloc, World.size_alloc] at this
  have x4 : Boxed W0 (s1 + 1 + 1 + 1) 50 (.pointer (some ⟨w.heap.size, 0, none⟩)) := by
    rw [← hW0, ← hs]; have := Boxed.new (((w1.alloc (.cells #[.slice none 0 0] 26)).alloc (.cells #[.int .i64 i] 2)).alloc (.cells #[.pointer (some ⟨w1.heap.size + 1, 0, none⟩)] 49)) 50 (.pointer (some ⟨w.heap.size, 0, none⟩)); rwa [World.size_alloc, World.size_alloc, World.size_alloc] at this
  have HF : Hid (∀ k, k < 6 → W0.cell? ⟨if k = 0 then s1 + 1 else w.heap.size, k, none⟩ = some (.int .i64 (fv ⟨i, dy, mo, ov, ro, ba, n, u, p⟩ k)) ∧ (if k = 0 then s1 + 1 else w.heap.size) ≠ s1 ∧ (if k = 0 then s1 + 1 else w.heap.size) < W0.heap.size) := by
    refine Lib.hid fun k hk => ?_
    obtain ⟨e1, e2, e3, e4, e5, e6⟩ := HE.out
    have hlt : w.heap.size < w1.heap.size := by omega
    have : k = 0 ∨ k = 1 ∨ k = 2 ∨ k = 3 ∨ k = 4 ∨ k = 5 := by omega
    rcases this with rfl | rfl | rfl | rfl | rfl | rfl
    · exact ⟨x2.cell, by simp, by simp; omega⟩
    · exact ⟨(hb1.cell (p := ⟨w.heap.size, 1, none⟩) hlt).trans e1, by simp; omega, by simp; omega⟩
    · exact ⟨(hb1.cell (p := ⟨w.heap.size, 2, none⟩) hlt).trans e2, by simp; omega, by simp; omega⟩
    · exact ⟨(hb1.cell (p := ⟨w.heap.size, 3, none⟩) hlt).trans e3, by simp; omega, by simp; omega⟩
    · exact ⟨(hb1.cell (p := ⟨w.heap.size, 4, none⟩) hlt).trans e4, by simp; omega, by simp; omega⟩
    · exact ⟨(hb1.cell (p := ⟨w.heap.size, 5, none⟩) hlt).trans e5, by simp; omega, by simp; omega⟩
  have e6 : W0.cell? ⟨w.heap.size, 6, none⟩ = some (.slice (some ⟨b, o, none⟩) n c) := (hb1.cell (p := ⟨w.heap.size, 6, none⟩) (show w.heap.size < w1.heap.size by omega)).trans HE.out.2.2.2.2.2
  have HE6 := Lib.hid e6
  have hAt : AtP W0 (s1 + 1 + 1) (s1 + 1 + 1 + 1) (s1 + 1) w.heap.size := ⟨x3.cell, x4.cell⟩
  rw [hW0]
  have HB0 := Lib.hid hB0
  clear hW0 HE C hb1 hB0 x2 x3 x4 HB1 e6 e0 q0
  refine wpIn_rangeFunc_ownF rfl (by omega) (gf := 33) (lb := #[.pointer (some ⟨s1 + 1 + 1, 0, none⟩), .pointer (some ⟨s1 + 1 + 1 + 1, 0, none⟩)]) rfl trivial (enters_of Try.func33 (by kernel_rfl) rfl)
    (places_stops (5 - 1) (by omega) (s1 + 1 + 1) (s1 + 1 + 1 + 1) (s1 + 1) w.heap.size W0 hAt) KpP.t (KpP.b (by omega) (by omega)) (Below.refl _ _) (fun _ => rfl)
    (fun pre W => PutI W0 s1 (lpl ⟨i, dy, mo, ov, ro, ba, n, u, p⟩ pre) W)
    (fun _ _ _ => False)
    (putI_own W0 s1 (lpl ⟨i, dy, mo, ov, ro, ba, n, u, p⟩))
    (fun _ _ _ _ _ hs _ _ => hs)
    ⟨⟨none, 0, x1, Rd.nil _ _⟩, World.grownBy.refl _ _⟩
    (fun x => { tmps := #[.agg #[.int .u32 i, .int .i64 dy, .int .i64 mo, .int .i64 ov, .int .i64 ro, .int .i64 ba, .slice (some ⟨b, o, none⟩) n c], .pointer (some ⟨w.heap.size, 0, none⟩), .slice none 0 0, .int .i64 0, .pointer (some ⟨s1, 0, none⟩), .pointer (some ⟨s1 + 1, 0, none⟩), plc (s1 + 1) w.heap.size x.1, undef,
      .agg #[.int .u32 i, .int .i64 dy, .int .i64 mo, .int .i64 ov, .int .i64 ro, .int .i64 ba, .slice (some ⟨b, o, none⟩) n c], .bool true, .bool false, .pointer (some ⟨w.heap.size, 0, none⟩), .int .u32 i, .int .i64 i, .func (.func 33) #[] #[.pointer (some ⟨s1 + 1 + 1, 0, none⟩), .pointer (some ⟨s1 + 1 + 1 + 1, 0, none⟩)],
      plc (s1 + 1) w.heap.size x.1, undef, undef, undef, undef, undef, undef, undef, undef, undef, undef, undef, undef, undef, undef, undef, undef, undef, undef, undef, undef], defers := [] }) ?assign ?body ?done ?stop
  case assign =>
    intro l x W K hK
    gi_wp2
    exact hK
  case body =>
    rintro lp pre x W hI hlen
    obtain ⟨⟨A', n', hv, hrd⟩, hg⟩ := hI
    have hI : PutI W0 s1 (lpl ⟨i, dy, mo, ov, ro, ba, n, u, p⟩ pre) W := ⟨⟨A', n', hv, hrd⟩, hg⟩
    obtain ⟨f1, f2, f3⟩ := HF.out x.1 x.2
    have hlenL : (lpl ⟨i, dy, mo, ov, ro, ba, n, u, p⟩ pre).length ≤ 35184372088832 := by rw [lpl_len]; omega
    have hst := lpl_snoc ⟨i, dy, mo, ov, ro, ba, n, u, p⟩ pre x
    have hpl := (World.cell?_of_block (w := W0) (a := ⟨if x.1 = 0 then s1 + 1 else w.heap.size, x.1, none⟩) (hg.block _ f3 (fun e => f2 (by injection e)))).trans f1
    simp only [plc]
    obtain ⟨L, hL⟩ : ∃ L, lpl ⟨i, dy, mo, ov, ro, ba, n, u, p⟩ pre = L := ⟨_, rfl⟩
    obtain ⟨q, hq⟩ : ∃ q, (if x.1 = 0 then s1 + 1 else w.heap.size) = q := ⟨_, rfl⟩
    obtain ⟨X, hX⟩ : ∃ X, fv ⟨i, dy, mo, ov, ro, ba, n, u, p⟩ x.1 = X := ⟨_, rfl⟩
    obtain ⟨k, hk⟩ : ∃ k, x.1 = k := ⟨_, rfl⟩
    rw [hL] at hv hrd hlenL hst hI
    rw [hX] at hpl hst
    rw [hq] at hpl
    rw [hk] at hpl
    rw [hq, hk]
    have HST := Lib.hid hst
    have CI := Lib.hid (fun W' (h : Below W.heap.size W W') => (show Calls Try.prog 21 #[.slice A' L.length n', .int .i64 X] W' fun e w' => ∃ v', e = .returned v' ∧ Mem.Own 5 w' W.heap.size v' (L ++ be 8 (un X)) ∧ Below W.heap.size W w' from
      (Int_any A' n' L X W' ((hrd.below h).more h.size) hlenL).mono (by rintro e w' ⟨v', rfl, h1, h2⟩; exact ⟨v', rfl, by rw [← unsig_un]; exact h1.mono h.size, h.trans (h2.mono h.size)⟩)))
    have HV := Lib.hid hv
    have HI := Lib.hid hI
    have HSZ := Lib.hid (show s1 + 4 ≤ W.heap.size by have := hg.size; omega)
    have hvc := hv.cell
    clear hst hrd hg hI f1 f2 f3 hlenL hv hlen hk hL hq hX
    gi_wp2
    gi_region_with (refine ⟨trivial, ?_⟩; gi_at_call 21; (with_reducible refine (CallsIn.inRound lp (callsIn_wide.2 (CI.out _ ?_))).mono ?_); (repeat (first | with_reducible exact Below.refl _ _ | with_reducible apply Below.drew | (with_reducible refine below_drewN ?_ _))); rintro e w2 ⟨v2, rfl, hown, hb⟩; obtain ⟨A2, n2, rfl, _⟩ := hown.form; have J1 := boxed_bel HV.out hb; have jc := J1.cell; have jf := J1.frozen; have K1 := Lib.hid hown; have K2 := Lib.hid hb; clear J1 hown hb)
    all_goals
      rw [← List.length_append]
      refine ⟨(bel_keeps K2.out).trans (KeepsOthers.setCell _ _ _), KpP.step K2.out (by have := HSZ.out; omega) (by have := HSZ.out; omega) (by omega) (by omega) _, ?_⟩
      show PutI W0 s1 (lpl ⟨i, dy, mo, ov, ro, ba, n, u, p⟩ (pre ++ [x])) _
      rw [HST.out]
      exact HI.out.step K2.out K1.out (by omega)
  case done =>
    rintro D ys W hD rfl hI hK
    obtain ⟨⟨A', n', hv, hrd⟩, hg⟩ := hI
    obtain ⟨L, hL⟩ : ∃ L, lpl ⟨i, dy, mo, ov, ro, ba, n, u, p⟩ (List.finRange 6) = L := ⟨_, rfl⟩
    have hL6 := lpl_len ⟨i, dy, mo, ov, ro, ba, n, u, p⟩ (List.finRange 6)
    rw [hL] at hv hrd hL6
    rw [List.length_finRange] at hL6
    have hBW : Below w.heap.size w W := HB0.out.grown hg HB0.out.size (fun j e => by cases e; omega)
    have hvc := hv.cell
    have hvf := hv.frozen
    have e6 := (World.cell?_of_block (w := W0) (a := ⟨w.heap.size, 6, none⟩) (hg.block w.heap.size (by omega) (fun e => by injection e with e; omega))).trans HE6.out
    have hsW := hg.size
    have CI := Lib.hid (show Calls Try.prog 21 #[.slice A' L.length n', .int .i64 (n : Int)] W fun e w' => ∃ v', e = .returned v' ∧ Mem.Own 5 w' W.heap.size v' (L ++ be 8 (un (n : Int))) ∧ Below W.heap.size W w' from
      (Int_any A' n' L n W hrd (by omega)).mono (by rintro e w' ⟨v', rfl, h1, h2⟩; exact ⟨v', rfl, by rw [← unsig_un]; exact h1, h2⟩))
    have HI : Hid (PutI W0 s1 L W) := Lib.hid ⟨⟨A', n', hv, hrd⟩, hg⟩
    have HV := Lib.hid hv
    have HBW := Lib.hid hBW
    have HLL := Lib.hid (And.intro hL hL6)
    have HK := Lib.hid hK
    have E6 := Lib.hid e6
    clear hrd hg hv hBW hL hL6 hK
    gi_wp2_with fail
    refine ⟨trivial, ?_⟩
    gi_at_call 21
    refine (callsIn_wide.2 CI.out).mono ?_
    rintro e w2 ⟨v2, rfl, hown, hb⟩
    obtain ⟨A2, n2, rfl, hr2, _⟩ := hown.form
    have J1 := boxed_bel HV.out hb
    have jc := J1.cell
    have jf := J1.frozen
    have e6' := (hb.cell (p := ⟨w.heap.size, 6, none⟩) (lt_cell e6)).trans e6
    have e7 : (w2.setCell ⟨s1, 0, none⟩ (.slice A2 (L ++ be 8 (un (n : Int))).length n2)).cell? ⟨w.heap.size, 6, none⟩ = some (.slice (some ⟨b, o, none⟩) n c) := (World.cell?_setCell_other _ _ _ _ (fun e => by injection e with e; omega)).trans e6'
    rw [List.length_append] at e7
    have I1 : PutI W0 s1 (L ++ be 8 (un (n : Int))) (w2.setCell ⟨s1, 0, none⟩ (.slice A2 (L ++ be 8 (un (n : Int))).length n2)) := HI.out.step hb hown (by omega)
    have hK2 : (w2.setCell ⟨s1, 0, none⟩ (.slice A2 (L ++ be 8 (un (n : Int))).length n2)).heap[D]? = some (.deferred (some [])) := (Below.heap_setCell _ _ _ _ (show D ≠ s1 by omega)).trans ((hb.block _ (Array.getElem?_eq_some_iff.1 HK.out).1).trans HK.out)
    have HI1 := Lib.hid I1
    have HK2 := Lib.hid hK2
    have hsz2 : W.heap.size ≤ w2.heap.size := hb.size
    clear e6 e6' J1 hb hown I1 hK2 hr2 HK CI
    gi_wp2_with (refine ⟨trivial, ?_⟩; gi_at_call 22; refine (callsIn_wide.2 (tierPlaces_any _ _ _ _)).mono ?_; rintro e w' ⟨rfl, rfl⟩)
    obtain ⟨L7, hL7⟩ : ∃ L7, L ++ be 8 (un (n : Int)) = L7 := ⟨_, rfl⟩
    have hl7 : L.length + (be 8 (un (n : Int))).length = L7.length := by rw [← hL7, List.length_append]
    rw [hl7]
    rw [hL7] at HI1 HK2
    obtain ⟨W2, hW2⟩ : ∃ W2, ((w2.setCell ⟨s1, 0, none⟩ (.slice A2 L7.length n2)).alloc (.cells #[.slice (some ⟨b, o, none⟩) n c] 23)) = W2 := ⟨_, rfl⟩
    obtain ⟨s2, hs2⟩ : ∃ s2, w2.heap.size = s2 := ⟨_, rfl⟩
    have hszW2 : W2.heap.size = s2 + 1 := by rw [← hW2, ← hs2]; simp
    have I2 : PutI W0 s1 L7 W2 := by
      rw [← hW2]
      exact putI_own W0 s1 (fun (_ : List Unit) => L7) [] _ _ none HI1.out (World.grownBy_alloc _ _ none) (fun _ e => by cases e)
    have y1 : Boxed W2 s2 23 (.slice (some ⟨b, o, none⟩) n c) := by
      rw [← hW2, ← hs2]; have := Boxed.new (w2.setCell ⟨s1, 0, none⟩ (.slice A2 L7.length n2)) 23 (.slice (some ⟨b, o, none⟩) n c); rwa [size_setCell] at this
    have hKW : W2.heap[D]? = some (.deferred (some [])) := by
      rw [← hW2]; exact (Below.heap_alloc _ _ _ (Array.getElem?_eq_some_iff.1 HK2.out).1).trans HK2.out
    have hBW2 : Below w.heap.size w W2 := HB0.out.grown I2.2 HB0.out.size (fun j e => by cases e; omega)
    have HT : Hid (∀ k, k < 2 * n → W2.cell? ⟨b, o + k, none⟩ = some (.int .i64 (tv u p k))) := Lib.hid fun k hk => by
      obtain ⟨a1, a2⟩ := HRow.out W2 hBW2 (k / 2) (by omega)
      unfold tv
      split
      · rw [show o + k = o + k / 2 * 2 by omega]; exact a1
      · rw [show o + k = o + k / 2 * 2 + 1 by omega]; exact a2
    have hbs : b < s1 := by omega
    have hn4 : n ≤ 4 := HM.out.t.m4
    have hsS : s1 + 4 ≤ s2 := by omega
    have hDS : D < s2 + 1 := by have := (Array.getElem?_eq_some_iff.1 hKW).1; omega
    rw [hW2, hs2]
    have HBW2 := Lib.hid hBW2
    have HKW := Lib.hid hKW
    have hl6 : Hid (L7.length = 56) := Lib.hid (by rw [← hl7, HLL.out.2, length_be])
    have hDs : s1 + 4 ≤ D := by omega
    have HLF : Hid (L7 = lpl ⟨i, dy, mo, ov, ro, ba, n, u, p⟩ (List.finRange 6) ++ be 8 n) := Lib.hid (by rw [← hL7, HLL.out.1, show un (n : Int) = n by unfold un; omega])
    clear hW2 HI1 HK2 hL7 hl7 HI HBW hs2 HV HLL E6 HE6 HF hAt jc jf e7 hBW2 hKW hvc hvf HRow hsz2 hsW x1 hsz
    have HI2 : Hid (∀ pre : List (Fin (2 * n)), pre = [] → PutI W2 s1 (L7 ++ tpl u p pre) W2) := Lib.hid (fun pre e => by
      subst e; rw [show tpl u p ([] : List (Fin (2 * n))) = [] from rfl, List.append_nil]; exact ⟨I2.1, World.grownBy.refl _ _⟩)
    refine wpIn_rangeFunc_ownF rfl (by omega) (gf := 36) (lb := #[.pointer (some ⟨s2, 0, none⟩)]) rfl trivial (enters_of Try.func36 (by kernel_rfl) rfl)
      (tier_stops (5 - 1) (by omega) s2 b o n c hmc hc1 W2 y1.cell) KpT.t (KpT.b (by omega)) (Below.refl _ _) (fun _ => rfl)
      (fun pre W => PutI W2 s1 (L7 ++ tpl u p pre) W)
      (fun _ _ _ => False)
      (putI_own W2 s1 (fun pre : List (Fin (2 * n)) => L7 ++ tpl u p pre))
      (fun _ _ _ _ _ hs _ _ => hs)
      (HI2.out [] rfl)
      (fun x => { tmps := #[.agg #[.int .u32 i, .int .i64 dy, .int .i64 mo, .int .i64 ov, .int .i64 ro, .int .i64 ba, .slice (some ⟨b, o, none⟩) n c], .pointer (some ⟨w.heap.size, 0, none⟩), .slice none 0 0, .int .i64 0, .pointer (some ⟨s1, 0, none⟩), .pointer (some ⟨s1 + 1, 0, none⟩), undef, tlc b o x.1,
        .agg #[.int .u32 i, .int .i64 dy, .int .i64 mo, .int .i64 ov, .int .i64 ro, .int .i64 ba, .slice (some ⟨b, o, none⟩) n c], .bool true, .bool false, .pointer (some ⟨w.heap.size, 0, none⟩), .int .u32 i, .int .i64 i, .func (.func 33) #[] #[.pointer (some ⟨s1 + 1 + 1, 0, none⟩), .pointer (some ⟨s1 + 1 + 1 + 1, 0, none⟩)],
        undef, undef, undef, undef, undef, undef, .slice A' L.length n', .pointer (some ⟨w.heap.size, 6, none⟩), .slice (some ⟨b, o, none⟩) n c, .int .i64 (n : Int), .slice A2 L7.length n2, .pointer (some ⟨w.heap.size, 6, none⟩), .slice (some ⟨b, o, none⟩) n c, .func (.func 36) #[] #[.pointer (some ⟨s2, 0, none⟩)],
        tlc b o x.1, undef, undef, undef, undef, undef, undef], defers := [] }) ?assign2 ?body2 ?done2 ?stop2
    case assign2 =>
      intro l x W K hK
      gi_wp2
      exact hK
    case body2 =>
      rintro lp pre x W hI hlen
      obtain ⟨⟨A', n', hv, hrd⟩, hg⟩ := hI
      have hI : PutI W2 s1 (L7 ++ tpl u p pre) W := ⟨⟨A', n', hv, hrd⟩, hg⟩
      have f1 := HT.out x.1 x.2
      have hlenL : (L7 ++ tpl u p pre).length ≤ 35184372088832 := by rw [List.length_append, tpl_len, hl6.out]; omega
      have hst : L7 ++ tpl u p (pre ++ [x]) = (L7 ++ tpl u p pre) ++ be 8 (un (tv u p x.1)) := by rw [tpl_snoc, List.append_assoc]
      have hpl := (World.cell?_of_block (w := W2) (a := ⟨b, o + x.1, none⟩) (hg.block b (by omega) (fun e => by injection e with e; omega))).trans f1
      simp only [tlc]
      obtain ⟨LL, hLL⟩ : ∃ LL, L7 ++ tpl u p pre = LL := ⟨_, rfl⟩
      obtain ⟨X, hX⟩ : ∃ X, tv u p x.1 = X := ⟨_, rfl⟩
      obtain ⟨k, hk⟩ : ∃ k, x.1 = k := ⟨_, rfl⟩
      rw [hLL] at hv hrd hlenL hst hI
      rw [hX] at hpl hst
      rw [hk] at hpl
      rw [hk]
      have HST := Lib.hid hst
      have CI := Lib.hid (fun W' (h : Below W.heap.size W W') => (show Calls Try.prog 21 #[.slice A' LL.length n', .int .i64 X] W' fun e w' => ∃ v', e = .returned v' ∧ Mem.Own 5 w' W.heap.size v' (LL ++ be 8 (un X)) ∧ Below W.heap.size W w' from
        (Int_any A' n' LL X W' ((hrd.below h).more h.size) hlenL).mono (by rintro e w' ⟨v', rfl, h1, h2⟩; exact ⟨v', rfl, by rw [← unsig_un]; exact h1.mono h.size, h.trans (h2.mono h.size)⟩)))
      have HV := Lib.hid hv
      have HI := Lib.hid hI
      have HSZ := Lib.hid (show s2 + 1 ≤ W.heap.size by have := hg.size; omega)
      have hvc := hv.cell
      clear hst hrd hg hI f1 hlenL hv hlen hk hLL hX
      gi_wp2
      gi_region_with (refine ⟨trivial, ?_⟩; gi_at_call 21; (with_reducible refine (CallsIn.inRound lp (callsIn_wide.2 (CI.out _ ?_))).mono ?_); (repeat (first | with_reducible exact Below.refl _ _ | with_reducible apply Below.drew | (with_reducible refine below_drewN ?_ _))); rintro e w2 ⟨v2, rfl, hown, hb⟩; obtain ⟨A2, n2, rfl, _⟩ := hown.form; have J1 := boxed_bel HV.out hb; have jc := J1.cell; have jf := J1.frozen; have K1 := Lib.hid hown; have K2 := Lib.hid hb; clear J1 hown hb)
      all_goals
        rw [← List.length_append]
        refine ⟨(bel_keeps K2.out).trans (KeepsOthers.setCell _ _ _), KpT.step K2.out (by have := HSZ.out; omega) (by omega) _, ?_⟩
        show PutI W2 s1 (L7 ++ tpl u p (pre ++ [x])) _
        rw [HST.out]
        exact HI.out.step K2.out K1.out (by omega)
    case done2 =>
      rintro D2 ys W hD2 rfl hI hK
      obtain ⟨⟨A3, n3, hv, hrd⟩, hg⟩ := hI
      have hvc := hv.cell
      have hE : L7 ++ tpl u p (List.finRange (2 * n)) = bytes ⟨i, dy, mo, ov, ro, ba, n, u, p⟩ := by rw [HLF.out]; exact bytes_eq ⟨i, dy, mo, ov, ro, ba, n, u, p⟩
      rw [hE] at hv hrd hvc
      have hK1 : W.heap[D]? = some (.deferred (some [])) := (hg.block D (by omega) (fun e => by injection e with e; omega)).trans HKW.out
      have hBW := HBW2.out.grown hg HBW2.out.size (fun j e => by cases e; omega)
      gi_wp2
      refine ⟨by simp, .inl ⟨_, _, rfl, run_takeDeferred hK, ?_⟩⟩
      have hne : D ≠ D2 := by omega
      have hK1' : (W.putObj D2 (.deferred none)).heap[D]? = some (.deferred (some [])) := (World.putObj_heap_other hne).trans hK1
      refine ⟨by simp, .inl ⟨_, _, rfl, run_takeDeferred hK1', ?_⟩⟩
      have r1 := (hrd.kept (grownBy_putObj' W D2 (.deferred none)) (fun r e => by cases e; exact ⟨_, hK, rfl⟩)).more (grownBy_putObj' W D2 (.deferred none)).size
      have r2 := (r1.kept (grownBy_putObj' _ D (.deferred none)) (fun r e => by cases e; exact ⟨_, hK1', rfl⟩)).more (grownBy_putObj' (W.putObj D2 (.deferred none)) D (.deferred none)).size
      refine ⟨_, results_tmp2 rfl _ _ _, A3, n3, rfl, r2, ?_⟩
      exact (hBW.trans (belowK_b (w := w) (Nat.le_refl _) W D2 _ _ (by omega) hK rfl rfl)).trans (belowK_b (w := w) (Nat.le_refl _) _ D _ _ (by omega) hK1' rfl rfl)
    case stop2 =>
      rintro D c pre W _ _ h _
      exact h.elim
  case stop =>
    rintro D c pre W _ _ h _
    exact h.elim
set_option maxHeartbeats 1000000 in
theorem Put_no (P : Pln) (A : Option Addr) (c : Nat) (w : World) (B : Nat) (hr : RdT w B A c P.u P.p P.n) (hB : B ≤ w.heap.size) (hi : 0 ≤ P.i) (hm : may P = false) :
    Calls Try.prog 9 #[plv P A c] w fun e w' => e = .returned (.tuple #[.slice none 0 0, .int .i64 1]) ∧ Below w.heap.size w w' := by
  have C := Lib.hid (fun W (h : Below w.heap.size w W) => Check_any P A c W B (hr.below (h.mono hB)) (Nat.le_trans hB h.size) hi)
  rw [hm] at C
  obtain ⟨i, dy, mo, ov, ro, ba, n, u, p⟩ := P
  unfold plv at C ⊢
  simp only at C ⊢
  clear hr hB hi hm
  obtain ⟨g0, g1, g2, g3, g4, g5, g6⟩ := box7 w (.int .u32 i) (.int .i64 dy) (.int .i64 mo) (.int .i64 ov) (.int .i64 ro) (.int .i64 ba) (.slice A n c) 25
  go_enter Try.func9, Try.ntmps9
  go_wp2_with fail
  refine (C.out _ ((Below.refl _ _).alloc (Nat.le_refl _) _)).mono ?_
  rintro e w1 ⟨rfl, hb⟩
  have B1 := Lib.hid (((Below.refl w.heap.size w).alloc (Nat.le_refl _) _).trans (hb.mono (by simp)))
  clear hb g0 g1 g2 g3 g4 g5 g6
  go_wp2_with fail
  go_ret2
  exact ⟨rfl, B1.out⟩
end Go.Proofs.Ytnaoodaadeimbaa.Pl
