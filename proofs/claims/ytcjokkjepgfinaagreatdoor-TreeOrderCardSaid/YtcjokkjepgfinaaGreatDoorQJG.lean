import Derived.Test.YtcjokkjepgfinaaGreatDoorQHM
import Derived.Test.YtcjokkjepgfinaaGreatDoorQHO
import Derived.Deep.RegionHeld3
import Derived.Test.YtcjokkjepgfinaaGreatDoorQIN
set_option linter.unusedVariables false
set_option linter.unusedSimpArgs false
namespace Go.Proofs.YtcjokkjepgfinaaGreatDoor.Tr
set_option maxRecDepth 8000
open Go.RowKit Mem Sk
open Dk (Fr)
section
variable {α : Type}
def vstL {k : Nat} (R : By → T k → α → α) (fr tu hi : By) : Its (k + 1) → α → α
  | [], a => a
  | x :: l, a => vstL R fr tu hi l (if meets x.1 (nxt hi l) fr tu then R (nxt hi l) x.2 a else a)
def vst (st : α → (k : Nat) → Its k → α) (fr tu : By) : (k : Nat) → By → Its k → α → α
  | 0, _, l, a => st a 0 l
  | k + 1, hi, l, a => vstL (k := k) (fun hi t a => vst st fr tu k hi (sub t) a) fr tu hi l (st a (k + 1) l)
theorem vst_succ (st : α → (k : Nat) → Its k → α) (fr tu hi : By) {k : Nat} (l : Its (k + 1)) (a : α) : vst st fr tu (k + 1) hi l a = vstL (fun hi t a => vst st fr tu k hi (sub t) a) fr tu hi l (st a (k + 1) l) := rfl
theorem vstL_drop {k : Nat} (R : By → T k → α → α) (fr tu hi : By) (l : Its (k + 1)) {i : Nat} {x : By × T k} (hx : l[i]? = some x) (c : α) :
    vstL R fr tu hi (l.drop i) c = vstL R fr tu hi (l.drop (i + 1)) (if meets x.1 (nxt hi (l.drop (i + 1))) fr tu then R (nxt hi (l.drop (i + 1))) x.2 c else c) := by
  obtain ⟨hlt, rfl⟩ := List.getElem?_eq_some_iff.1 hx
  rw [List.drop_eq_getElem_cons hlt]
  rfl
theorem vstL_mono {k : Nat} (R : By → T k → α → α) (mu : α → Nat) (hR : ∀ hi t a, mu a ≤ mu (R hi t a)) (fr tu hi : By) (l : Its (k + 1)) (a : α) : mu a ≤ mu (vstL R fr tu hi l a) := by
  induction l generalizing a with
  | nil => exact Nat.le_refl _
  | cons x l ih =>
    refine Nat.le_trans ?_ (ih (if meets x.1 (nxt hi l) fr tu then R (nxt hi l) x.2 a else a))
    by_cases h : meets x.1 (nxt hi l) fr tu = true
    · rw [if_pos h]; exact hR _ _ _
    · rw [if_neg h]; exact Nat.le_refl _
theorem vst_mono (st : α → (k : Nat) → Its k → α) (mu : α → Nat) (hst : ∀ a k l, mu a ≤ mu (st a k l)) (fr tu : By) : ∀ (k : Nat) (hi : By) (l : Its k) (a : α), mu a ≤ mu (vst st fr tu k hi l a)
  | 0, _, l, a => hst a 0 l
  | k + 1, hi, l, a => Nat.le_trans (hst a (k + 1) l) (by rw [vst_succ]; exact vstL_mono _ mu (fun hi t a => vst_mono st mu hst fr tu k hi (sub t) a) fr tu hi l _)
def stR (fr tu : By) (a : List It) (k : Nat) (l : Its k) : List It := match k, l with
  | 0, l => a ++ rng fr tu 0 [] l
  | _ + 1, _ => a
theorem vst_rng (fr tu : By) {k : Nat} (hi : By) (l : Its k) (a : List It) : vst (stR fr tu) fr tu k hi l a = a ++ rng fr tu k hi l := by
  induction k generalizing hi a with
  | zero => rfl
  | succ k ih =>
    rw [vst_succ, rng_succ]
    show vstL _ fr tu hi l a = _
    induction l generalizing a with
    | nil => show a = a ++ []; rw [List.append_nil]
    | cons x l ihl =>
      show vstL _ fr tu hi l (if meets x.1 (nxt hi l) fr tu then vst (stR fr tu) fr tu k (nxt hi l) (sub x.2) a else a) = a ++ ((if meets x.1 (nxt hi l) fr tu then rng fr tu k (nxt hi l) (sub x.2) else []) ++ rngL (fun hi t => rng fr tu k hi (sub t)) fr tu hi l)
      rw [ihl]
      by_cases h : meets x.1 (nxt hi l) fr tu = true
      · rw [if_pos h, if_pos h, ih, List.append_assoc]
      · rw [if_neg h, if_neg h]; rfl
structure Sz where
  n : Nat
  p : Nat
  q : Nat
def stS (a : Sz) (k : Nat) (l : Its k) : Sz := ⟨a.n + (if k = 0 then l.length else 0), a.p + 1, max a.q (k + 1)⟩
theorem vst_pairs {k : Nat} (hi : By) (l : Its k) (a : Sz) : (vst stS [] [] k hi l a).n = a.n + (prs k l).length := by
  induction k generalizing hi a with
  | zero => rfl
  | succ k ih =>
    rw [vst_succ]
    have key : ∀ (l : Its (k + 1)) (b : Sz), (vstL (fun hi t a => vst stS [] [] k hi (sub t) a) [] [] hi l b).n = b.n + (prs (k + 1) l).length := fun l => by
      induction l with
      | nil => intro b; rw [prs_nil]; rfl
      | cons x l ihl =>
        intro b
        have hm : meets x.1 (nxt hi l) [] [] = true := by unfold meets ends; cases nxt hi l <;> rfl
        show (vstL _ [] [] hi l (if meets x.1 (nxt hi l) [] [] then vst stS [] [] k (nxt hi l) (sub x.2) b else b)).n = _
        rw [ihl, if_pos hm, ih, prs_cons, List.length_append]; omega
    rw [key]; rfl
end
section
variable {B : Nat} {W w w' w1 w2 w3 : World} {sb db : Nat} {y y' : SLay} {s s' : Sto} {yd yd' : Dk.Lay} {d d' : Dk.Dsk} {m m' : Nat} {F G : Nat → Prop} {N : Nat} {v : Value} {key : By} {V : Nat → Prop} {g g1 g2 g3 : Option Nat} {base : Nat}
structure Vs (V : Nat → Prop) (w : World) (g : Option Nat) (w' : World) (g' : Option Nat) : Prop where
  fr : Fr (fun q => V q ∨ g = some q) w w'
  own : g' = g ∨ ∀ q, g' = some q → w.heap.size ≤ q
theorem Vs.refl : Vs V w g w g := ⟨Fr.refl _ _, .inl rfl⟩
theorem Vs.bel (h : Below w.heap.size w w') : Vs V w g w' g := ⟨⟨h.os, h.tape, h.output, h.size, fun q hq _ => h.block q hq⟩, .inl rfl⟩
theorem Vs.trans (h : Vs V w1 g1 w2 g2) (k : Vs V w2 g2 w3 g3) : Vs V w1 g1 w3 g3 := by
  refine ⟨⟨k.fr.os.trans h.fr.os, k.fr.tape.trans h.fr.tape, k.fr.output.trans h.fr.output, Nat.le_trans h.fr.size k.fr.size, fun q hq hp => ?_⟩, ?_⟩
  · refine (k.fr.block q (Nat.lt_of_lt_of_le hq h.fr.size) (fun e => ?_)).trans (h.fr.block q hq hp)
    rcases e with e | e
    · exact hp (.inl e)
    · rcases h.own with o | o
      · exact hp (.inr (o ▸ e))
      · have := o q e; omega
  · rcases k.own with o | o
    · rcases h.own with o2 | o2
      · exact .inl (o.trans o2)
      · exact .inr fun q hq => o2 q (o ▸ hq)
    · exact .inr fun q hq => Nat.le_trans h.fr.size (o q hq)
theorem Vs.kf (h : Vs V w g w' g1) (hV : ∀ q, V q → F q) (hg : ∀ q, g = some q → F q) : Kf F w w' F :=
  Kf.same (h.fr.mono fun q _ hq => hq.elim (hV q) (hg q))
theorem Vs.bo (h : Vs V w g w' g1) (bo : Bo B W w sb db y yd s d m) (hb : ∀ q, both y yd q → q < base) (hB : B ≤ base) (hV : ∀ q, V q → base ≤ q) (hg : ∀ q, g = some q → base ≤ q) : Bo B W w' sb db y yd s d m := by
  have hn : ∀ q, both y yd q → ¬ (V q ∨ g = some q) := fun q hq e => by
    have h1 := hb q hq
    rcases e with e | e
    · have := hV q e; omega
    · have := hg q e; omega
  exact ⟨⟨bo.st.is.fr h.fr (fun k hk e => hn k (.inr hk) e), bo.st.good, bo.st.le, bo.st.bel.trans ⟨h.fr.os, h.fr.tape, h.fr.output, h.fr.size, fun k hk => h.fr.block k (Nat.lt_of_lt_of_le hk (Nat.le_trans bo.st.base bo.st.bel.size)) (fun e => by
    rcases e with e | e
    · have := hV k e; omega
    · have := hg k e; omega)⟩, bo.st.low, bo.st.base⟩, bo.is.fr h.fr (fun k hk e => hn k (.inl hk) e), bo.good, bo.apart, bo.low, bo.nn, bo.sm, bo.tabW, bo.posB⟩
end
structure Vis {α : Type} (f : Nat) (caps : Array Value) (V : Nat → Prop) (base : Nat) (I : α → Option Nat → World → Prop) (st : α → (k : Nat) → Its k → α) (mu : α → Nat) (M : Nat) : Prop where
  mono : ∀ a k l, mu a ≤ mu (st a k l)
  bel : ∀ a g w w', I a g w → Below w.heap.size w w' → I a g w'
  low : ∀ a g w, I a g w → (∀ q, V q → base ≤ q ∧ q < w.heap.size) ∧ (∀ q, g = some q → base ≤ q ∧ q < w.heap.size)
  enter : ∀ (nv : Value) X, (callFunc f (#[nv] ++ caps)).run Tryz.prog X = .ok (.enter f (#[nv] ++ caps)) X
  does : ∀ a g w k (l : Its k) (F : Nat → Prop) N (q0 : Int) A1 n1 c1 A2 n2 c2 A c, k < 256 → I a g w → (∀ q, V q → F q) → (∀ q, g = some q → F q) → KR0 w F N (.slice A l.length c) (its l) → nsz l ≤ 4011 → mu (st a k l) ≤ M →
    Calls Tryz.prog f (#[.agg #[.int .i64 q0, .int .i64 (k : Int), .slice A1 n1 c1, .slice A2 n2 c2, .slice A l.length c]] ++ caps) w fun e w' => e = .returned (.tuple #[]) ∧ ∃ g', Vs V w g w' g' ∧ I (st a k l) g' w'
section
variable {α : Type} {f : Nat} {caps : Array Value} {V : Nat → Prop} {base : Nat} {I : α → Option Nat → World → Prop} {st : α → (k : Nat) → Its k → α} {mu : α → Nat} {M : Nat}
variable {B : Nat} {W w w' : World} {sb db : Nat} {y y' : SLay} {s s' : Sto} {yd yd' : Dk.Lay} {d d' : Dk.Dsk} {m m' : Nat} {F G : Nat → Prop} {N : Nat} {v : Value} {fr tu hi : By}
theorem span_at {w0 : World} (p k1 : Int) (A1 A2 : Option Addr) (n1 c1 c2 : Nat) {k : Nat} {l : Its k} (h : KR w0 F N v (its l)) (hb0 : Below w0.heap.size w0 w) (hs : isum (its l) ≤ 1000000000) (h2 : RdF w0 F (.slice A2 hi.length c2) hi) {i : Nat} {x : By × Kid k} (hx : l[i]? = some x) :
    Calls Tryz.prog 69 #[.agg #[.int .i64 p, .int .i64 k1, .slice A1 n1 c1, .slice A2 hi.length c2, v], .int .i64 (i : Int)] w fun e w' => ∃ Ak ck At ct, e = .returned (.agg #[.slice Ak x.1.length ck, .slice At (nxt hi (l.drop (i + 1))).length ct]) ∧ RdF w0 F (.slice Ak x.1.length ck) x.1 ∧ RdF w0 F (.slice At (nxt hi (l.drop (i + 1))).length ct) (nxt hi (l.drop (i + 1))) ∧ Below w.heap.size w w' := by
  have hxi := its_at hx
  obtain ⟨hlt, he⟩ := List.getElem?_eq_some_iff.1 hxi
  have hd : nxt hi ((its l).drop (i + 1)) = nxt hi (l.drop (i + 1)) := by rw [← its_drop, nxt_its]
  refine (span_any p k1 A1 A2 n1 c1 c2 h hb0 hs h2 hlt).mono ?_
  rintro e w' ⟨Ak, ck, At, ct, nt, rfl, r1, r2, hb⟩
  rw [he] at r1 ⊢
  rw [hd] at r2
  obtain ⟨A', c', e2, rest⟩ := r2
  injection e2 with e3 e4 e5
  subst e3 e4 e5
  exact ⟨Ak, ck, At, ct, rfl, r1, ⟨At, ct, rfl, rest⟩, hb⟩
theorem kids_at {k : Nat} {hi : By} {l : Its (k + 1)} (h : KidsOk (k + 1) hi l) {i : Nat} {x : By × T k} (hx : l[i]? = some x) : Ok k 1337 x.1 (nxt hi (l.drop (i + 1))) (sub x.2) := by
  obtain ⟨hlt, rfl⟩ := List.getElem?_eq_some_iff.1 hx
  have e : l = l.take i ++ l[i] :: l.drop (i + 1) := by rw [← List.drop_eq_getElem_cons hlt, List.take_append_drop]
  have h' : Kids (fun lo hi (t : T k) => Ok k 1337 lo hi (sub t)) hi (l.take i ++ l[i] :: l.drop (i + 1)) := e ▸ h
  exact (Kids.cons.1 ((Kids.app _ _).1 h').2).1
theorem meas {n i : Nat} (h : i < n) : n - (intOf (.int .i64 ((i : Int) + 1))).toNat < n - (intOf (.int .i64 (i : Int))).toNat := by simp [intOf]; omega
theorem res_nil {fn : Func} (h : fn.results = #[]) (tmps : Array Value) (P : Program) (w : World) : (results fn tmps).run P w = .ok (.tuple #[]) w := by simp [results, h]
set_option maxHeartbeats 4000000 in
theorem walk_leaf (vis : Vis f caps V base I st mu M) {a : α} {g : Option Nat} {l : Its 0} {A A1 A2 A3 A4 : Option Addr} {c c1 c2 c3 c4 n1 n2 n3 n4 : Nat} (q0 : Int) (hi : I a g w) (hV : ∀ q, V q → F q) (hg : ∀ q, g = some q → F q) (hkr : KR0 w F N (.slice A l.length c) (its l)) (hs : nsz l ≤ 4011) (hM : mu (st a 0 l) ≤ M) :
    Calls Tryz.prog 40 #[pt sb, .agg #[.int .i64 q0, .int .i64 ((0 : Nat) : Int), .slice A1 n1 c1, .slice A2 n2 c2, .slice A l.length c], .agg #[.slice A3 n3 c3, .slice A4 n4 c4], .func (.func f) #[] caps] w fun e w' => e = .returned (.tuple #[]) ∧ ∃ g', Vs V w g w' g' ∧ I (st a 0 l) g' w' := by
  obtain ⟨W0, hW0⟩ : ∃ X, X = (w.alloc (.cells #[.int .i64 q0, .int .i64 ((0 : Nat) : Int), .slice A1 n1 c1, .slice A2 n2 c2, .slice A l.length c] 75)).alloc (.cells #[.slice A3 n3 c3, .slice A4 n4 c4] 72) := ⟨_, rfl⟩
  have B0 : Below w.heap.size w W0 := hW0 ▸ (box1 w _).alloc (by simp) _
  have N0 : VN W0 w.heap.size [.int .i64 q0, .int .i64 ((0 : Nat) : Int), .slice A1 n1 c1, .slice A2 n2 c2, .slice A l.length c] := hW0 ▸ (VN.new w _ _).alloc _
  have D := vis.does a g W0 0 l F N q0 A1 n1 c1 A2 n2 c2 A c (by omega) (vis.bel _ _ _ _ hi B0) hV hg (hkr.kf (kfb B0)) hs hM
  rw [show (((0 : Nat) : Int)) = 0 from rfl] at D
  have D := Lib.hid D
  have E := vis.enter
  have L := vis.low _ _ _ hi
  have HL := Lib.hid L
  have HB := Lib.hid B0
  have HN := Lib.hid N0
  have HW := Lib.hid hW0
  clear hi hV hg hkr hs hM vis L B0 N0 hW0
  go_enter Tryz.func40, Tryz.ntmps40
  go_wp2_with fail
  rw [← show (((0 : Nat) : Int)) = 0 from rfl, ← HW.out, show (((0 : Nat) : Int)) = 0 from rfl]
  refine D.out.mono ?_
  rintro e w1 ⟨rfl, g1, hv, hi1⟩
  have N1 := HN.out.kf (F := fun q => V q ∨ g = some q) (fun e => by
    rcases e with e | e
    · have := (HL.out.1 _ e).2; omega
    · have := (HL.out.2 _ e).2; omega) (Kf.same hv.fr)
  have k1 : w1.cell? ⟨w.heap.size, 1, none⟩ = some (.int .i64 0) := N1.c 1 _ rfl
  have HV := Lib.hid ((Vs.bel HB.out).trans hv)
  have HI := Lib.hid hi1
  clear hv hi1 N1
  go_wp2_with fail
  exact ⟨rfl, _, res_nil rfl _ _ _, rfl, g1, HV.out, HI.out⟩
set_option maxHeartbeats 8000000 in
theorem walk_any (vis : Vis f caps V base I st mu M) (hbo : ∀ q, both y yd q → q < base) (hBb : B ≤ base) {A3 A4 : Option Addr} {c3 c4 : Nat} :
    ∀ (k : Nat), k < 256 → ∀ (l : Its k) (hi : By) (a : α) (g : Option Nat) (w : World) (F : Nat → Prop) (N : Nat) (A A1 A2 : Option Addr) (c c1 c2 n1 : Nat) (q0 : Int),
      Bo B W w sb db y yd s d m → I a g w → (∀ q, V q → F q) → (∀ q, g = some q → F q) → KR0 w F N (.slice A l.length c) (its l) → RdF w F (.slice A2 hi.length c2) hi →
      RdF w (fun q => base ≤ q) (.slice A3 fr.length c3) fr → RdF w (fun q => base ≤ q) (.slice A4 tu.length c4) tu → nsz l ≤ 4011 → (k = 0 ∨ ∃ mm lo, Ok k mm lo hi l) → Pgs s d k l → mu (vst st fr tu k hi l a) ≤ M →
    Calls Tryz.prog 40 #[pt sb, .agg #[.int .i64 q0, .int .i64 (k : Int), .slice A1 n1 c1, .slice A2 hi.length c2, .slice A l.length c], .agg #[.slice A3 fr.length c3, .slice A4 tu.length c4], .func (.func f) #[] caps] w fun e w' => e = .returned (.tuple #[]) ∧ ∃ g', Vs V w g w' g' ∧ I (vst st fr tu k hi l a) g' w' := by
  intro k
  induction k with
  | zero =>
    intro hk l hi a g w F N A A1 A2 c c1 c2 n1 q0 bo hI hV hg hkr hhi hfr htu hs hok hpg hM
    exact walk_leaf vis q0 hI hV hg hkr hs hM
  | succ k ih =>
    intro hk l hi a g w F N A A1 A2 c c1 c2 n1 q0 bo hI hV hg hkr hhi hfr htu hs hok hpg hM
    have hmr : ∀ hi (t : T k) a, mu a ≤ mu (vst st fr tu k hi (sub t) a) := fun hi t a => vst_mono st mu vis.mono fr tu k hi (sub t) a
    have hM1 : mu (st a (k + 1) l) ≤ M := Nat.le_trans (vstL_mono (fun hi t a => vst st fr tu k hi (sub t) a) mu hmr fr tu hi l _) hM
    have HMR := Lib.hid hmr; have HM := Lib.hid hM
    obtain ⟨mm, lo, hok⟩ := hok.resolve_left (by omega)
    have hkids := (ok_iff.1 hok).2
    have IH := Lib.hid (ih (by omega))
    clear ih
    obtain ⟨W0, hW0⟩ : ∃ X, X = (w.alloc (.cells #[.int .i64 q0, .int .i64 ((k + 1 : Nat) : Int), .slice A1 n1 c1, .slice A2 hi.length c2, .slice A l.length c] 75)).alloc (.cells #[.slice A3 fr.length c3, .slice A4 tu.length c4] 72) := ⟨_, rfl⟩
    have B0 : Below w.heap.size w W0 := hW0 ▸ (box1 w _).alloc (by simp) _
    have N0 : VN W0 w.heap.size [.int .i64 q0, .int .i64 ((k + 1 : Nat) : Int), .slice A1 n1 c1, .slice A2 hi.length c2, .slice A l.length c] := hW0 ▸ (VN.new w _ _).alloc _
    have K0 : VN W0 (w.heap.size + 1) [.slice A3 fr.length c3, .slice A4 tu.length c4] := by
      have := VN.new (w.alloc (.cells #[.int .i64 q0, .int .i64 ((k + 1 : Nat) : Int), .slice A1 n1 c1, .slice A2 hi.length c2, .slice A l.length c] 75)) #[.slice A3 fr.length c3, .slice A4 tu.length c4] 72
      rw [hW0]; simpa using this
    have kr0 := hkr.kf (kfb (F := F) B0)
    have hh0 := hhi.kf (kfb (F := F) B0)
    have f0 := hfr.kf (kfb (F := fun q => base ≤ q) B0)
    have t0 := htu.kf (kfb (F := fun q => base ≤ q) B0)
    have bo0 := bo.keep B0
    have D := vis.does a g W0 (k + 1) l F N q0 A1 n1 c1 A2 hi.length c2 A c hk (vis.bel _ _ _ _ hI B0) hV hg kr0 hs hM1
    rw [show (((k + 1 : Nat) : Int)) = (k : Int) + 1 by omega] at D N0 hW0
    rw [show (((k + 1 : Nat) : Int)) = (k : Int) + 1 by omega]
    have D := Lib.hid D
    have E := vis.enter
    have HL := Lib.hid (vis.low _ _ _ hI)
    have HB := Lib.hid B0
    have HN := Lib.hid N0
    have HK := Lib.hid K0
    have HW := Lib.hid hW0
    obtain ⟨Fo, hFo⟩ : ∃ Fo : Nat → Prop, Fo = fun q => F q ∨ W0.heap.size ≤ q := ⟨_, rfl⟩
    have HKR := Lib.hid (show KR0 W0 Fo N (.slice A l.length c) (its l) from hFo ▸ kr0.outer); have HHI := Lib.hid (show RdF W0 Fo (.slice A2 hi.length c2) hi from hFo ▸ rdf_out hh0); have HFO := Lib.hid hFo; have HVo := Lib.hid (show ∀ q, V q → Fo q from fun q h => by rw [hFo]; exact .inl (hV q h)); have HGo := Lib.hid (show ∀ q, g = some q → Fo q from fun q h => by rw [hFo]; exact .inl (hg q h)); have HFR := Lib.hid f0; have HTU := Lib.hid t0; have BO := Lib.hid bo0
    have VIS := Lib.hid vis; have HV := Lib.hid hV; have HG := Lib.hid hg; have HS := Lib.hid hs; have HPG := Lib.hid hpg; have HKIDS := Lib.hid hkids; have HBO := Lib.hid hbo; have HBB := Lib.hid hBb
    have k0 : ¬ ((k : Int) + 1 == 0) = true := by simp; omega
    have k00 : (((k : Int) + 1) == 0) = false := by simp; omega
    have hlen : l.length ≤ 100000 := by have := len_le_isum (its l); rw [its_length] at this; unfold nsz at hs; omega
    have HLEN := Lib.hid hlen
    clear vis hI hV hg hkr hhi hfr htu hs hok hpg hkids hM hM1 hmr bo hFo B0 N0 K0 hW0 kr0 hh0 f0 t0 bo0 hbo hBb hlen
    go_enter Tryz.func40, Tryz.ntmps40
    go_wp2_with fail
    rw [← HW.out]
    refine D.out.mono ?_
    rintro e w1 ⟨rfl, g1, hv, hi1⟩
    -- what stays of the boxes
    have NOT := Lib.hid (show ∀ b, w.heap.size ≤ b → b < W0.heap.size → ¬ (V b ∨ g = some b) from fun b hb1 hb2 e => by
      rcases e with e | e
      · have := (HL.out.1 _ e).2; omega
      · have := (HL.out.2 _ e).2; omega)
    have hsz : w.heap.size + 1 < W0.heap.size := HK.out.lt
    have N1 := HN.out.kf (F := fun q => V q ∨ g = some q) (NOT.out _ (Nat.le_refl _) (by omega)) (Kf.same hv.fr)
    have k1 : w1.cell? ⟨w.heap.size, 1, none⟩ = some (.int .i64 ((k : Int) + 1)) := N1.c 1 _ rfl
    have k4 : w1.cell? ⟨w.heap.size, 4, none⟩ = some (.slice A l.length c) := N1.c 4 _ rfl
    have HV1 := Lib.hid hv
    have HI := Lib.hid hi1
    obtain ⟨n, hn⟩ : ∃ n, n = l.length := ⟨_, rfl⟩
    rw [← hn] at k4
    have HNN := Lib.hid hn
    clear hv hi1 N1 hn
    go_wp2_with fail
    go_loopw [18] (fun v wr => ∃ i : Nat, i ≤ n ∧ v = .int .i64 i ∧ Hid (∃ gr acc, Vs V W0 g wr gr ∧ I acc gr wr ∧ vstL (fun hi t a => vst st fr tu k hi (sub t) a) fr tu hi (l.drop i) acc = vst st fr tu (k + 1) hi l a)) (fun v _ => n - (intOf v).toNat)
    case atStart => exact ⟨0, Nat.zero_le _, rfl, Lib.hid ⟨g1, _, HV1.out, HI.out, rfl⟩⟩
    case round =>
      obtain ⟨i, hi1, rfl, hX⟩ := hrel
      clear k1 k4 HV1 HI
      obtain ⟨gr, acc, hv, hI, heq⟩ := hX.out
      clear hX
      have HVV := Lib.hid hv; have HII := Lib.hid hI; have HEQ := Lib.hid heq
      by_cases hlt : i < n
      · have HLT := Lib.hid hlt
        have hlt' : i < l.length := by have := HNN.out; omega
        obtain ⟨x, hx⟩ : ∃ x, l[i]? = some x := ⟨_, List.getElem?_eq_getElem hlt'⟩
        have HX := Lib.hid hx
        have hlow := HL.out
        have NB := HN.out.kf (F := fun q => V q ∨ g = some q) (NOT.out _ (Nat.le_refl _) (by omega)) (Kf.same hv.fr)
        have KB := HK.out.kf (F := fun q => V q ∨ g = some q) (NOT.out _ (by omega) (by omega)) (Kf.same hv.fr)
        have kr := HKR.out.kf (hv.kf HVo.out HGo.out)
        have hh := HHI.out.kf (hv.kf HVo.out HGo.out)
        have ff := HFR.out.kf (hv.kf (F := fun q => base ≤ q) (fun q h => (hlow.1 q h).1) (fun q h => (hlow.2 q h).1))
        have tt := HTU.out.kf (hv.kf (F := fun q => base ≤ q) (fun q h => (hlow.1 q h).1) (fun q h => (hlow.2 q h).1))
        have bo := hv.bo BO.out HBO.out HBB.out (fun q h => (hlow.1 q h).1) (fun q h => (hlow.2 q h).1)
        have a0 := NB.c 0 _ rfl
        have a1 := NB.c 1 _ rfl
        have a2 := NB.c 2 _ rfl
        have a3 := NB.c 3 _ rfl
        have a4 := NB.c 4 _ rfl
        have b0 := KB.c 0 _ rfl
        have b1 := KB.c 1 _ rfl
        have HNB := Lib.hid NB; have HKB := Lib.hid KB; have HKR1 := Lib.hid kr; have HHI1 := Lib.hid hh; have HFR1 := Lib.hid ff; have HTU1 := Lib.hid tt; have BO1 := Lib.hid bo
        have hisum : isum (its l) ≤ 1000000000 := by have := HS.out; unfold nsz at this; omega
        have HIS := Lib.hid hisum
        have j2 : wrap64 ((i : Int) + 1) = (i : Int) + 1 := by unfold wrap64; have := HLEN.out; omega
        have J2 := Lib.hid j2
        have j1 : IntKind.i64.wrap (i : Int) = (i : Int) := by rw [IntKind.wrap_i64]; have := HLEN.out; omega
        clear hv hI heq NB KB kr hh ff tt bo hisum hlow hlt'
        have SP := Lib.hid (fun X (hb : Below wr.heap.size wr X) => span_at q0 ((k : Int) + 1) A1 A2 n1 c1 c2 HKR1.out.kr hb HIS.out HHI1.out HX.out)
        go_upto_region 6 with fail
        obtain ⟨bm, hbm⟩ : ∃ bm, bm = meets x.1 (nxt hi (l.drop (i + 1))) fr tu := ⟨_, rfl⟩
        have HBM := Lib.hid hbm
        clear hbm
        go_cut [25] from 21 to 34 (fun v wz => v = .bool bm ∧ Hid (Below wr.heap.size wr wz))
        case first =>
          go_region_with (first
            | (go_at_call 70
               with_reducible refine (meets_any ((R1.out.kf (kfb B2.out)).rdd) ((R2.out.kf (kfb B2.out)).rdd) ((HFR1.out.kf (kfb B2.out)).rdd) ((HTU1.out.kf (kfb B2.out)).rdd)).mono ?_
               rintro e w3 ⟨rfl, hb3⟩
               have B3 := Lib.hid (B2.out.trans (hb3.mono B2.out.size))
               clear hb3)
            | (go_at_call 69
               refine (SP.out _ (by first | exact Below.refl _ _ | exact (Below.refl _ _).drew | exact (Below.refl _ _).drew.drew)).mono ?_
               rintro e w2 ⟨Ak, ck, At, ct, rfl, r1, r2, hb2⟩
               have R1 := Lib.hid r1; have R2 := Lib.hid r2
               have B2 := Lib.hid (show Below wr.heap.size wr w2 from ⟨hb2.os, hb2.tape, hb2.output, hb2.size, hb2.block⟩)
               have b0 := cell_bel B2.out b0
               have b1 := cell_bel B2.out b1
               clear r1 r2 hb2))
          all_goals
            rw [← HBM.out]
            go_wp2_with fail
            go_meet
            case rel => exact ⟨rfl, B3⟩
        case rest =>
          obtain ⟨rfl, BW⟩ := hcut
          have heq2 := vstL_drop (fun hi t a => vst st fr tu k hi (sub t) a) fr tu hi l HX.out acc
          rw [HEQ.out, ← HBM.out] at heq2
          have HE2 := Lib.hid heq2
          clear heq2 SP
          cases bm with
          | false =>
            clear a0 a1 a2 a3 a4 b0 b1
            go_wp2_with fail
            go_roundw
            case rel => exact ⟨i + 1, HLT.out, by go_num, Lib.hid ⟨gr, acc, HVV.out.trans (Vs.bel BW.out), VIS.out.bel _ _ _ _ HII.out BW.out, by have h := HE2.out; rw [if_neg (by simp)] at h; exact h.symm⟩⟩
            case measure => rw [J2.out]; exact meas HLT.out
          | true =>
            have a0 := cell_bel BW.out a0
            have a1 := cell_bel BW.out a1
            have a2 := cell_bel BW.out a2
            have a3 := cell_bel BW.out a3
            have a4 := cell_bel BW.out a4
            have b0 := cell_bel BW.out b0
            have b1 := cell_bel BW.out b1
            have hmem := HPG.out x (List.mem_of_getElem? HX.out)
            obtain ⟨⟨q, hq, hq65, hq0, hpo⟩, hpgx⟩ := hmem
            have hokx := kids_at HKIDS.out HX.out
            have hq' := Lib.hid (And.intro hq (And.intro hq65 hpo)); have hpgx := Lib.hid hpgx; have hokx := Lib.hid hokx
            clear hq hq65 hq0 hpo
            have hlow2 := VIS.out.low _ _ _ HII.out
            have HLW := Lib.hid hlow2
            clear hlow2
            have HGR := Lib.hid (show ∀ b, gr = some b → Fo b from fun b h => by
              rcases HVV.out.own with o | o
              · exact HGo.out b (o ▸ h)
              · rw [HFO.out]; exact .inr (o b h))
            have BOc := Lib.hid (BO1.out.keep BW.out)
            have BL := Lib.hid (fun X (hb : Below wc.heap.size wc X) => below_at (BOc.out.keep hb) HX.out hq'.out.1 hq'.out.2.1 hq'.out.2.2 (by omega) hokx.out HS.out q0 (A1 := A1) (n1 := n1) (c1 := c1) (((HKR1.out.kf (kfb BW.out)).kf (kfb hb)).kr) ((HHI1.out.kf (kfb BW.out)).kf (kfb hb)))
            have HMC := Lib.hid (show mu (vst st fr tu k (nxt hi (l.drop (i + 1))) (sub x.2) acc) ≤ M from by
              have h := HE2.out
              rw [if_pos (by simp)] at h
              have h2 := vstL_mono (fun hi t a => vst st fr tu k hi (sub t) a) mu HMR.out fr tu hi (l.drop (i + 1)) (vst st fr tu k (nxt hi (l.drop (i + 1))) (sub x.2) acc)
              rw [← h] at h2
              exact Nat.le_trans h2 HM.out)
            have WKG := Lib.hid (show ∀ (X w5 Y : World) (Ak At A6 : Option Addr) (ck ct c6 : Nat), Below wc.heap.size wc X → X.heap.size = wc.heap.size → Below X.heap.size X w5 → RdF X Fo (.slice At (nxt hi (l.drop (i + 1))).length ct) (nxt hi (l.drop (i + 1))) → KR0 w5 (fun b => b < X.heap.size) X.heap.size (.slice A6 (List.length (sub x.2)) c6) (its (sub x.2)) → Below w5.heap.size w5 Y →
                Calls Tryz.prog 40 #[pt sb, .agg #[.int .i64 (q : Int), .int .i64 (k : Int), .slice Ak x.1.length ck, .slice At (nxt hi (l.drop (i + 1))).length ct, .slice A6 (List.length (sub x.2)) c6], .agg #[.slice A3 fr.length c3, .slice A4 tu.length c4], .func (.func f) #[] caps] Y fun e w' => e = .returned (.tuple #[]) ∧ Hid (∃ g', Vs V wr gr w' g' ∧ I (vst st fr tu k (nxt hi (l.drop (i + 1))) (sub x.2) acc) g' w') ∧ True from fun X w5 Y Ak At A6 ck ct c6 hx1 hx2 hx3 r2 r3 hb => by
              have b1 := hx1.trans (hx3.mono hx1.size)
              have bwy : Below wr.heap.size wr Y := BW.out.trans ((b1.trans (hb.mono b1.size)).mono BW.out.size)
              have p1 : ∀ b, V b → b < wc.heap.size ∧ Fo b := fun b h => ⟨Nat.lt_of_lt_of_le (HLW.out.1 b h).2 BW.out.size, HVo.out b h⟩
              have p2 : ∀ b, gr = some b → b < wc.heap.size ∧ Fo b := fun b h => ⟨Nat.lt_of_lt_of_le (HLW.out.2 b h).2 BW.out.size, HGR.out b h⟩
              have p3 : KR0 Y (fun b => b < wc.heap.size ∧ Fo b) X.heap.size (.slice A6 (List.length (sub x.2)) c6) (its (sub x.2)) := (r3.mono (fun b h => hx2 ▸ h.1)).kf (kfb hb)
              have p4 : RdF Y (fun b => b < wc.heap.size ∧ Fo b) (.slice At (nxt hi (l.drop (i + 1))).length ct) (nxt hi (l.drop (i + 1))) := ((r2.mono (fun b h => h.2)).kf (kfb hx3)).kf (kfb hb)
              refine (IH.out (sub x.2) (nxt hi (l.drop (i + 1))) acc gr Y (fun b => b < wc.heap.size ∧ Fo b) X.heap.size A6 Ak At c6 ck ct x.1.length (q : Int) (BO1.out.keep bwy) (VIS.out.bel _ _ _ _ HII.out bwy) p1 p2 p3 p4 (HFR1.out.kf (kfb bwy)) (HTU1.out.kf (kfb bwy)) hokx.out.here.2.2 (.inr ⟨_, _, hokx.out⟩) hpgx.out HMC.out).mono ?_
              rintro e w' ⟨rfl, g', hv', hi'⟩
              exact ⟨rfl, Lib.hid ⟨g', (Vs.bel bwy).trans hv', hi'⟩, trivial⟩)
            have FIN := Lib.hid (show ∀ w6, Hid (∃ g', Vs V wr gr w6 g' ∧ I (vst st fr tu k (nxt hi (l.drop (i + 1))) (sub x.2) acc) g' w6) → Hid (∃ gr acc, Vs V W0 g w6 gr ∧ I acc gr w6 ∧ vstL (fun hi t a => vst st fr tu k hi (sub t) a) fr tu hi (l.drop (i + 1)) acc = vst st fr tu (k + 1) hi l a) from fun w6 h => by
              obtain ⟨g6, hv6, hi6⟩ := h.out
              exact Lib.hid ⟨g6, _, HVV.out.trans hv6, hi6, by have h := HE2.out; rw [if_pos (by simp)] at h; exact h.symm⟩)
            clear HVV HII HEQ HGR BOc HE2 hokx hpgx hq' HLW NOT HKR HHI HFR HTU BO HN HK HL HV HG HVo HGo HFO
            go_wp2_with fail
            go_region_with (first
              | (go_at_call 40
                 refine (WKG.out _ w5 _ Ak At A6 ck ct c6 (by first | exact Below.refl _ _ | exact (Below.refl _ _).drew | exact (Below.refl _ _).drew.drew) (by rfl) hb5 r2 r3 (by first | exact Below.refl _ _ | exact (Below.refl _ _).drew | exact (Below.refl _ _).drew.drew)).mono ?_
                 rintro e w6 ⟨rfl, HV6, _⟩)
              | (go_at_call 59
                 refine (BL.out _ (by first | exact Below.refl _ _ | exact (Below.refl _ _).drew | exact (Below.refl _ _).drew.drew)).mono ?_
                 rintro e w5 ⟨Ak, ck, At, ct, A6, c6, rfl, r1, r2, r3, hb5⟩
                 rw [its_length] at r3 ⊢
                 have b0 := cell_bel hb5 b0
                 have b1 := cell_bel hb5 b1))
            all_goals
              have F6 := FIN.out _ HV6
              clear WKG FIN HV6 BL
              go_wp2_with fail
              go_roundw
              case rel => exact ⟨i + 1, HLT.out, by go_num, F6⟩
              case measure => rw [J2.out]; exact meas HLT.out
      · obtain rfl : i = n := by omega
        have hdrop : l.drop i = [] := List.drop_eq_nil_of_le (by have := HNN.out; omega)
        have hfin := HEQ.out
        rw [hdrop] at hfin
        have HFIN := Lib.hid (show acc = vst st fr tu (k + 1) hi l a from hfin)
        clear hv hI heq hdrop hfin hlt
        go_wp2_with fail
        exact ⟨rfl, _, res_nil rfl _ _ _, rfl, gr, (Vs.bel HB.out).trans HVV.out, by rw [← HFIN.out]; exact HII.out⟩
end
abbrev V2 := Value × Value
def t2 (p : V2) : List Value := [p.1, p.2]
def t2s (l : List V2) : List Value := (l.map t2).flatten
theorem t2s_app (l m : List V2) : t2s (l ++ m) = t2s l ++ t2s m := by simp [t2s]
theorem t2s_cons (p : V2) (l : List V2) : t2s (p :: l) = p.1 :: p.2 :: t2s l := by simp [t2s, t2]
theorem t2s_len (l : List V2) : (t2s l).length = l.length * 2 := by
  induction l with
  | nil => rfl
  | cons x l ih => rw [t2s_cons]; simp only [List.length_cons, ih]; omega
theorem t2s_at (l : List V2) (i : Nat) (p : V2) (h : l[i]? = some p) : (t2s l)[i * 2]? = some p.1 ∧ (t2s l)[i * 2 + 1]? = some p.2 := by
  induction l generalizing i with
  | nil => simp at h
  | cons x l ih =>
    rw [t2s_cons]
    cases i with
    | zero => simp at h; subst h; exact ⟨rfl, rfl⟩
    | succ i =>
      have h := ih i (by simpa using h)
      rw [show (i + 1) * 2 = i * 2 + 1 + 1 by omega]
      simpa using h
theorem t2s_get (l : List V2) (j : Nat) (u : Value) (h : (t2s l)[j]? = some u) : ∃ i p, l[i]? = some p ∧ (j = i * 2 ∧ u = p.1 ∨ j = i * 2 + 1 ∧ u = p.2) := by
  have hj : j < l.length * 2 := by
    rcases Nat.lt_or_ge j (l.length * 2) with k | k
    · exact k
    · rw [List.getElem?_eq_none (by rw [t2s_len]; exact k)] at h; cases h
  have hi : j / 2 < l.length := by omega
  obtain ⟨a1, a2⟩ := t2s_at l (j / 2) l[j / 2] (List.getElem?_eq_getElem hi)
  refine ⟨j / 2, l[j / 2], List.getElem?_eq_getElem hi, ?_⟩
  rcases (show j % 2 = 0 ∨ j % 2 = 1 by omega) with e | e
  · left; refine ⟨by omega, ?_⟩; rw [show j / 2 * 2 = j by omega, h] at a1; injection a1
  · right; refine ⟨by omega, ?_⟩; rw [show j / 2 * 2 + 1 = j by omega, h] at a2; injection a2
def one2 (p : V2) : Prop := p.1.oneCell' = true ∧ p.2.oneCell' = true
def RowP (w : World) (B : Nat) (A : Option Addr) (c : Nat) (l : List V2) : Prop :=
  l.length ≤ c ∧ c ≤ maxLen ∧ (A = none → c = 0) ∧ (∀ p ∈ l, one2 p) ∧ (0 < l.length → ∃ b o, A = some ⟨b, o, none⟩ ∧ b < B ∧ ∀ i p, l[i]? = some p → w.cell? ⟨b, o + i * 2, none⟩ = some p.1 ∧ w.cell? ⟨b, o + i * 2 + 1, none⟩ = some p.2)
theorem RowP.nil (w : World) (B : Nat) : RowP w B none 0 [] := ⟨by simp, by unfold maxLen; omega, fun _ => rfl, fun _ h => by simp at h, fun h => by simp at h⟩
theorem RowP.keep {w w' : World} {B : Nat} {A : Option Addr} {c : Nat} {l : List V2} (h : RowP w B A c l) (hk : ∀ p : Addr, p.block < B → w'.cell? p = w.cell? p) : RowP w' B A c l :=
  ⟨h.1, h.2.1, h.2.2.1, h.2.2.2.1, fun hn => by
    obtain ⟨b, o, e, hb, hc⟩ := h.2.2.2.2 hn
    exact ⟨b, o, e, hb, fun i p hi => ⟨(hk ⟨b, _, none⟩ hb).trans (hc i p hi).1, (hk ⟨b, _, none⟩ hb).trans (hc i p hi).2⟩⟩⟩
theorem RowP.below {w w' : World} {B : Nat} {A : Option Addr} {c : Nat} {l : List V2} (h : RowP w B A c l) (hb : Below B w w') : RowP w' B A c l := h.keep fun _ hp => hb.cell hp
theorem RowP.own {w : World} {base : Nat} {v : Value} {l : List V2} (h : w.ownsRow base 54 2 v l.length (t2s l)) (ho : ∀ p ∈ l, one2 p) : ∃ A c, v = .slice A l.length c ∧ RowP w w.heap.size A c l ∧ (∀ q, v.ownBlock = some q → base ≤ q ∧ q < w.heap.size) := by
  have hlt := World.ownsRow.lt h
  have hcells := fun g hg => World.ownsRow.cells (g := g) h hg
  rcases h.2 with ⟨rfl, h0⟩ | ⟨g, cap, cur, rfl, hb, hh, hnc, hcm, _, _⟩
  · have : l = [] := List.eq_nil_of_length_eq_zero h0
    subst this
    exact ⟨none, 0, rfl, RowP.nil _ _, hlt⟩
  · refine ⟨_, cap, rfl, ⟨hnc, hcm, fun e => (by cases e), ho, fun _ => ⟨g, 0, rfl, (hlt g rfl).2, fun i p hi => ?_⟩⟩, hlt⟩
    obtain ⟨a1, a2⟩ := t2s_at l i p hi
    have g1 := hcells g rfl _ _ a1
    have g2 := hcells g rfl _ _ a2
    have hadd : ∀ j, (⟨g, 0, none⟩ : Addr).add j = ⟨g, 0 + j, none⟩ := fun j => by unfold Addr.add; split <;> simp_all
    rw [hadd] at g1 g2
    rw [Nat.add_assoc]
    exact ⟨g1, g2⟩
theorem pair_info : (Tryz.prog.info? 54).map (fun i => (i.zero, i.size, i.bytes)) = some (some (.agg #[.slice none 0 0, .slice none 0 0]), 2, 48) := by kernel_rfl
theorem pairParts : ∃ i, Tryz.prog.info? 54 = some i ∧ i.zero = some (.agg #[.slice none 0 0, .slice none 0 0]) ∧ i.size = 2 ∧ i.bytes = 48 := info_parts pair_info
theorem run_append_pr (w : World) (ty : TypeId) (base : Nat) (v : Value) (l : List V2) (hown : w.ownsRow base 54 2 v l.length (t2s l))
    (B : Nat) (A : Option Addr) (c : Nat) (k : List V2) (hr : RowP w B A c k) (hlen : l.length + k.length ≤ 1000000000000) (hbase : base ≤ w.heap.size) :
    ∃ v' w', (Builtin.append_ #[43, 43] ty #[v, .slice A k.length c]).run Tryz.prog w = .ok v' w' ∧ w'.ownsRow base 54 2 v' (l ++ k).length (t2s (l ++ k)) ∧ w.grownBy w' v.ownBlock ∧ (v'.ownBlock = v.ownBlock ∨ v'.ownBlock = some w.heap.size) := by
  obtain ⟨i, hi, hz, hs, hby⟩ := pairParts
  rcases A with _ | ad
  · have hc := hr.2.2.1 rfl
    have hk : k = [] := List.eq_nil_of_length_eq_zero (by have := hr.1; omega)
    subst hk
    refine ⟨v, w, ?_, by simpa using hown, World.grownBy.refl w _, .inl rfl⟩
    have hsz : ∀ W, (Go.sizeOf 54).run Tryz.prog W = .ok 2 W := fun W => by simp [Go.sizeOf, typeInfo, hi, hs]
    rcases hown.2 with ⟨rfl, hn⟩ | ⟨g, cap, cur, rfl, _, _, hnc, _⟩
    · simp [Builtin.append_, run_underlying Tryz.underlying43, hsz, Builtin.lenOf, Builtin.firstCells]
    · simp [Builtin.append_, run_underlying Tryz.underlying43, hsz, Builtin.lenOf, Builtin.firstCells, hnc, storeCells]
  · have hadd : ∀ (b o j : Nat), (⟨b, o, none⟩ : Addr).add j = ⟨b, o + j, none⟩ := fun b o j => by unfold Addr.add; split <;> simp_all
    have hcells : ∀ j u, (t2s k)[j]? = some u → w.cell? (ad.add j) = some u := by
      intro j u hu
      obtain ⟨n, p, hp, hj⟩ := t2s_get k j u hu
      have hn : n < k.length := (List.getElem?_eq_some_iff.1 hp).1
      obtain ⟨b, o, e1, _, hc⟩ := hr.2.2.2.2 (by omega)
      injection e1 with e1
      subst e1
      obtain ⟨a1, a2⟩ := hc n p hp
      rw [hadd]
      rcases hj with ⟨rfl, rfl⟩ | ⟨rfl, rfl⟩
      · exact a1
      · rw [← Nat.add_assoc]; exact a2
    have hone : ∀ u ∈ t2s k, u.oneCell' = true := by
      intro u hu
      obtain ⟨j, hj⟩ := List.mem_iff_getElem?.1 hu
      obtain ⟨n, p, hp, h⟩ := t2s_get k j u hj
      have h1 := hr.2.2.2.1 p (List.mem_of_getElem? hp)
      rcases h with ⟨_, rfl⟩ | ⟨_, rfl⟩
      · exact h1.1
      · exact h1.2
    obtain ⟨v', w', hrun, h2, h3, _, h5⟩ := run_append_own_at (P := Tryz.prog) w base 43 ty 54 i _ 2 48 Tryz.underlying43 hi hz hs hby rfl (by omega) v l.length (t2s l) hown ad k.length c (t2s k) (t2s_len k) hcells
      hone (by unfold maxLen; omega) (by omega) hbase
    exact ⟨v', w', hrun, by rw [List.length_append, t2s_app]; exact h2, h3, h5⟩
theorem step_append_pr {ops : Array Oper} {o : Oper} {a : Act} {w : World} {K : Act → World → Prop} {Q : Exit → Act → World → Prop} {E : Prop}
    (hg : o.guard = none) (s x : Operand) (hop : o.op = Op.call { callee := Callee.builtin Builtin.append, args := #[s, x], argTypes := #[43, 43] })
    (base : Nat) (v : Value) (l : List V2) (hs : a.eval s = v) (hown : w.ownsRow base 54 2 v l.length (t2s l))
    (B : Nat) (A : Option Addr) (m c : Nat) (k : List V2) (hx : a.eval x = .slice A m c) (hm : m = k.length) (hr : RowP w B A c k) (hlen : l.length + k.length ≤ 1000000000000) (hbase : base ≤ w.heap.size)
    (hK : ∀ v' w', w'.ownsRow base 54 2 v' (l ++ k).length (t2s (l ++ k)) → w.grownBy w' v.ownBlock → (v'.ownBlock = v.ownBlock ∨ v'.ownBlock = some w.heap.size) → K (a.put o.dst v') w') :
    if Region.wanted o (yielded ops a.tmps) = true then Oper.wp Tryz.prog o a w K Q else E := by
  subst hm
  obtain ⟨v', w', hrun, h2, h3, h4⟩ := run_append_pr w o.type base v l hown B A c k hr hlen hbase
  exact Dk.step_append_run hg s x 43 hop v _ hs hx hrun (hK v' w' h2 h3 h4)
def AlP (w : World) (G : Nat → Prop) (ts : List V2) (l : List It) : Prop := ts.length = l.length ∧ ∀ (i : Nat) (p : V2) (x : It), ts[i]? = some p → l[i]? = some x → RdF w G p.1 x.1 ∧ RdF w G p.2 x.2
section
variable {w w' : World} {F G : Nat → Prop} {N : Nat} {v : Value} {fr tu : By}
theorem AlP.nil (w : World) (G : Nat → Prop) : AlP w G [] [] := ⟨rfl, fun i p x h => by simp at h⟩
theorem AlP.imp {w w' : World} {G H : Nat → Prop} {ts : List V2} {l : List It} (h : AlP w G ts l) (k : ∀ v x, RdF w G v x → RdF w' H v x) : AlP w' H ts l := ⟨h.1, fun i p x hp hx => ⟨k _ _ (h.2 i p x hp hx).1, k _ _ (h.2 i p x hp hx).2⟩⟩
theorem AlP.app {ts us : List V2} {l m : List It} (h : AlP w G ts l) (k : AlP w G us m) : AlP w G (ts ++ us) (l ++ m) := by
  refine ⟨by rw [List.length_append, List.length_append, h.1, k.1], fun i p x hp hx => ?_⟩
  by_cases hi : i < ts.length
  · rw [List.getElem?_append_left hi] at hp
    rw [List.getElem?_append_left (by have := h.1; omega)] at hx
    exact h.2 i p x hp hx
  · rw [List.getElem?_append_right (by omega)] at hp
    rw [List.getElem?_append_right (by have := h.1; omega), ← h.1] at hx
    exact k.2 _ p x hp hx
theorem AlP.one {p : V2} {x : It} (h1 : RdF w G p.1 x.1) (h2 : RdF w G p.2 x.2) : AlP w G [p] [x] := by
  refine ⟨rfl, fun i q z hq hz => ?_⟩
  cases i with
  | zero => simp at hq hz; subst hq hz; exact ⟨h1, h2⟩
  | succ i => simp at hq
theorem rdf_one {l : By} (h : RdF w G v l) : v.oneCell' = true := by obtain ⟨A, c, rfl, _⟩ := h; rfl
theorem AlP.ones {ts : List V2} {l : List It} (h : AlP w G ts l) : ∀ p ∈ ts, one2 p := fun p hp => by
  obtain ⟨i, hi⟩ := List.mem_iff_getElem?.1 hp
  obtain ⟨hlt, _⟩ := List.getElem?_eq_some_iff.1 hi
  have hl : i < l.length := by have := h.1; omega
  obtain ⟨h1, h2⟩ := h.2 i p l[i] hi (List.getElem?_eq_getElem hl)
  exact ⟨rdf_one h1, rdf_one h2⟩
theorem filter_take {α : Type} (f : α → Bool) (l : List α) {k : Nat} (hk : k < l.length) : (l.take (k + 1)).filter f = (l.take k).filter f ++ if f l[k] = true then [l[k]] else [] := by
  rw [List.take_succ_eq_append_getElem hk, List.filter_append]
  by_cases h : f l[k] = true
  · rw [if_pos h]; simp [h]
  · rw [if_neg h]; simp [h]
theorem rdf_grown {r : Option Nat} {l : By} (h : RdF w (fun q => q < N ∨ r = some q) v l) (hg : w.grownBy w' r) {r' : Option Nat} (hr : r' = r ∨ r' = some w.heap.size) : RdF w' (fun q => q < N ∨ r' = some q) v l := by
  obtain ⟨A, c, e, h1, h2, h3, h4⟩ := h
  refine ⟨A, c, e, h1, h2, h3, fun hn => ?_⟩
  obtain ⟨b, o, e2, hb, hf, hc⟩ := h4 hn
  refine ⟨b, o, e2, Nat.lt_of_lt_of_le hb hg.size, fun e => ?_, fun i hi => (World.cell?_of_block (w := w) (hg.block b hb (fun e => hf (.inr e.symm)))).trans (hc i hi)⟩
  rcases e with e | e
  · exact hf (.inl e)
  · rcases hr with hr | hr
    · exact hf (.inr (hr ▸ e))
    · rw [hr] at e; injection e with e; omega
set_option maxHeartbeats 8000000 in
theorem pairs_any {li : List It} {F3 : Nat → Prop} {A A1 A2 A3 A4 : Option Addr} {c c1 c2 c3 c4 n1 n2 : Nat} (q0 k0 : Int) (h : KR w F N (.slice A li.length c) li) (hs : isum li ≤ 1000000) (hf : RdF w F3 (.slice A3 fr.length c3) fr) (ht : RdF w F3 (.slice A4 tu.length c4) tu) :
    Calls Tryz.prog 43 #[.agg #[.int .i64 q0, .int .i64 k0, .slice A1 n1 c1, .slice A2 n2 c2, .slice A li.length c], .agg #[.slice A3 fr.length c3, .slice A4 tu.length c4]] w fun e w' =>
      ∃ v ts, e = .returned v ∧ w'.ownsRow w.heap.size 54 2 v ts.length (t2s ts) ∧ AlP w' (fun q => q < w.heap.size ∨ v.ownBlock = some q) ts (li.filter fun x => inS fr tu x.1) ∧ Below w.heap.size w w' := by
  have hlen : li.length ≤ 1000000 := by have := len_le_isum li; omega
  obtain ⟨W0, hW0⟩ : ∃ X, X = (w.alloc (.cells #[.int .i64 q0, .int .i64 k0, .slice A1 n1 c1, .slice A2 n2 c2, .slice A li.length c] 75)).alloc (.cells #[.slice A3 fr.length c3, .slice A4 tu.length c4] 72) := ⟨_, rfl⟩
  have B0 : Below w.heap.size w W0 := hW0 ▸ (box1 w _).alloc (by simp) _
  have K0 : VN W0 (w.heap.size + 1) [.slice A3 fr.length c3, .slice A4 tu.length c4] := by
    have := VN.new (w.alloc (.cells #[.int .i64 q0, .int .i64 k0, .slice A1 n1 c1, .slice A2 n2 c2, .slice A li.length c] 75)) #[.slice A3 fr.length c3, .slice A4 tu.length c4] 72
    rw [hW0]; simpa using this
  obtain ⟨n, hn⟩ : ∃ n, n = li.length := ⟨_, rfl⟩
  have HN := Lib.hid hn; have HH := Lib.hid h; have HS := Lib.hid hs; have HF := Lib.hid hf; have HT := Lib.hid ht; have HB := Lib.hid B0; have HK := Lib.hid K0; have HW := Lib.hid hW0; have HLEN := Lib.hid hlen
  rw [← hn]
  clear h hs hf ht B0 K0 hlen hn hW0
  go_enter Tryz.func43, Tryz.ntmps43
  go_wp2_with fail
  rw [HN.out, ← HW.out, ← HN.out]
  go_loopw [5, 11] (fun v i wr => ∃ k : Nat, k ≤ n ∧ i = .int .i64 k ∧ Hid (∃ ts, wr.ownsRow w.heap.size 54 2 v ts.length (t2s ts) ∧ AlP wr (fun q => q < w.heap.size ∨ v.ownBlock = some q) ts ((li.take k).filter fun x => inS fr tu x.1) ∧ Below w.heap.size w wr ∧ VN wr (w.heap.size + 1) [.slice A3 fr.length c3, .slice A4 tu.length c4] ∧ (∀ q, v.ownBlock = some q → W0.heap.size ≤ q) ∧ W0.heap.size ≤ wr.heap.size)) (fun _ i _ => n - (intOf i).toNat)
  case atStart => exact ⟨0, Nat.zero_le _, rfl, Lib.hid ⟨[], World.ownsRow_nil _ _ _ _, AlP.nil _ _, HB.out, HK.out, fun q e => (by cases e), Nat.le_refl _⟩⟩
  case round =>
    obtain ⟨k, hk, rfl, hX⟩ := hrel
    obtain ⟨ts, hown, hal, hbel, hkb, hob, hws⟩ := hX.out
    have OWN := Lib.hid hown; have AL := Lib.hid hal; have BR := Lib.hid hbel; have KB := Lib.hid hkb; have OB := Lib.hid hob; have WS := Lib.hid hws
    clear hX hown hal hbel hkb hob hws
    by_cases hlt : k < n
    · have HLT := Lib.hid hlt
      have hkl : k < li.length := by have := HN.out; omega
      obtain ⟨x, hx⟩ : ∃ x, x = li[k] := ⟨_, rfl⟩
      have HX := Lib.hid hx
      have kr := HH.out.kf (kfb (F := F) BR.out)
      obtain ⟨b, o, Ak, ck, Ar, cr, qq, e10, gk, gr, gm, rk, rr, rfk, rfr⟩ := kr.at (i := k) hkl
      subst e10
      rw [← hx] at gk gr rk rr rfk rfr
      have j2 : wrap64 ((k : Int) + 1) = (k : Int) + 1 := by unfold wrap64; have := HLEN.out; omega
      have J2 := Lib.hid j2
      have RK := Lib.hid rk; have RR := Lib.hid rr
      have b0 := KB.out.c 0 _ rfl
      have b1 := KB.out.c 1 _ rfl
      have hs1 := KB.out.lt
      obtain ⟨bi, hbi⟩ : ∃ bi, bi = inS fr tu x.1 := ⟨_, rfl⟩
      have HBI := Lib.hid hbi
      have HSP := Lib.hid (fun X (hb : Below wr.heap.size wr X) => has_span (((HF.out.kf (kfb BR.out)).kf (kfb hb)).rdd) (((HT.out.kf (kfb BR.out)).kf (kfb hb)).rdd) ((RK.out.below hb).more hb.size))
      rw [← hbi] at HSP
      have IB := Lib.hid (VN.new wr #[.slice Ak x.1.length ck, .slice Ar x.2.length cr, .pointer qq] 80)
      clear kr hx hbi rk rr rfk rfr
      go_wp2_with fail
      refine (HSP.out _ (box1 _ _)).mono ?_
      rintro e w2 ⟨rfl, hb2⟩
      have IB2 := Lib.hid (IB.out.bel hb2)
      have B2 := Lib.hid ((box1 wr (.cells #[.slice Ak x.1.length ck, .slice Ar x.2.length cr, .pointer qq] 80)).trans (hb2.mono (box1 wr _).size))
      have i0 := IB2.out.c 0 _ rfl
      have i1 := IB2.out.c 1 _ rfl
      clear hb2 gk gr gm b0 b1 HSP IB hs1
      cases bi with
      | false =>
        go_wp2_with fail
        go_roundw
        case rel => exact ⟨k + 1, HLT.out, by go_num, Lib.hid ⟨ts, Dk.owns_of_block OWN.out fun g hg => B2.out.block g (World.ownsRow.lt OWN.out g hg).2, (AL.out.imp fun v x h => h.kf (kfb B2.out)) |> (fun h => by rw [filter_take _ _ (by have := HN.out; have := HLT.out; omega), ← HX.out, ← HBI.out]; simpa using h), BR.out.trans (B2.out.mono BR.out.size), KB.out.bel B2.out, OB.out, Nat.le_trans WS.out B2.out.size⟩⟩
        case measure => rw [J2.out]; exact meas HLT.out
      | true =>
        go_wp2_with fail
        rename_i k3
        have HK3 := Lib.hid k3
        clear k3
        have hisz : x.1.length ≤ 1000000 ∧ x.2.length ≤ 1000000 := by
          have h1 := isum_take_drop li k
          rw [List.drop_eq_getElem_cons hkl, isum_cons, ← HX.out] at h1
          have h2 := HS.out
          unfold isz at h1
          omega
        have CLK := Lib.hid (fun X (hb : Below wr.heap.size wr X) => clone_any Ak ck x.1.length x.1 X ((RK.out.below hb).more hb.size) rfl (by omega))
        have CLR := Lib.hid (fun X (hb : Below wr.heap.size wr X) => clone_any Ar cr x.2.length x.2 X ((RR.out.below hb).more hb.size) rfl (by omega))
        clear hisz
        have hS0 : Below w.heap.size w w2 ∧ w2.cell? ⟨wr.heap.size, 0, none⟩ = some (.slice Ak x.1.length ck) ∧ w2.cell? ⟨wr.heap.size, 1, none⟩ = some (.slice Ar x.2.length cr) := ⟨BR.out.trans (B2.out.mono BR.out.size), i0, i1⟩
        clear i0 i1
        refine wp_region_noPanic ?_
        refine wp_region_held_drew (S := fun X => Below w.heap.size w X ∧ X.cell? ⟨wr.heap.size, 0, none⟩ = some (.slice Ak x.1.length ck) ∧ X.cell? ⟨wr.heap.size, 1, none⟩ = some (.slice Ar x.2.length cr)) (by kernel_rfl) (show Below w.heap.size w w2.drew ∧ w2.drew.cell? ⟨wr.heap.size, 0, none⟩ = some (.slice Ak x.1.length ck) ∧ w2.drew.cell? ⟨wr.heap.size, 1, none⟩ = some (.slice Ar x.2.length cr) from ⟨hS0.1.drew, hS0.2.1, hS0.2.2⟩) (fun hHeld => ?_)
        have B2d := Lib.hid B2.out.drew
        clear hS0
        generalize w2.drew = w2d at *
        refine wpAnyH_take (i := 0) (v := ?_) rfl (by kernel_rfl) (by kernel_rfl) (by kernel_rfl) (fun _ _ _ h => h) (Or.inl ⟨by rfl, ?_⟩) (by assumption) ?_
        rotate_left 1
        · intro w' hSw; (try dsimp only at hSw); go_simp; try (with_reducible rfl)
        try simp only [Act.put, List.getElem_toArray, List.getElem_cons_zero, List.getElem_cons_succ, List.setIfInBounds_toArray, List.set_cons_zero, List.set_cons_succ]
        refine wpAnyH_take (i := 1) (v := ?_) rfl (by kernel_rfl) (by kernel_rfl) (by kernel_rfl) (fun _ _ _ h => h) (Or.inl ⟨by rfl, ?_⟩) (by assumption) ?_
        rotate_left 1
        · intro w' hSw; (try dsimp only at hSw); go_simp; try (with_reducible rfl)
        try simp only [Act.put, List.getElem_toArray, List.getElem_cons_zero, List.getElem_cons_succ, List.setIfInBounds_toArray, List.set_cons_zero, List.set_cons_succ]
        refine wpAnyH_take (i := 2) (v := ?_) rfl (by kernel_rfl) (by kernel_rfl) (by kernel_rfl) (fun _ _ _ h => h) (Or.inl ⟨by rfl, ?_⟩) (by assumption) ?_
        rotate_left 1
        · intro w' hSw; have hq := hSw.2.1; (try dsimp only at hSw); go_simp; try (with_reducible rfl)
        try simp only [Act.put, List.getElem_toArray, List.getElem_cons_zero, List.getElem_cons_succ, List.setIfInBounds_toArray, List.set_cons_zero, List.set_cons_succ]
        refine wpAnyH_take (i := 4) (v := ?_) rfl (by kernel_rfl) (by kernel_rfl) (by kernel_rfl) (fun _ _ _ h => h) (Or.inl ⟨by rfl, ?_⟩) (by assumption) ?_
        rotate_left 1
        · intro w' hSw; (try dsimp only at hSw); go_simp; try (with_reducible rfl)
        try simp only [Act.put, List.getElem_toArray, List.getElem_cons_zero, List.getElem_cons_succ, List.setIfInBounds_toArray, List.set_cons_zero, List.set_cons_succ]
        refine wpAnyH_take (i := 5) (v := ?_) rfl (by kernel_rfl) (by kernel_rfl) (by kernel_rfl) (fun _ _ _ h => h) (Or.inl ⟨by rfl, ?_⟩) (by assumption) ?_
        rotate_left 1
        · intro w' hSw; have hq := hSw.2.2; (try dsimp only at hSw); go_simp; try (with_reducible rfl)
        try simp only [Act.put, List.getElem_toArray, List.getElem_cons_zero, List.getElem_cons_succ, List.setIfInBounds_toArray, List.set_cons_zero, List.set_cons_succ]
        refine wpAnyH_ready (rs := [3]) (by kernel_rfl) (by simp) ?_
        refine AllReadyH.cons rfl (fun K hK => ?_) AllReadyH.nil
        · go_simp
          refine (CLK.out _ B2d.out).mono ?_
          rintro e w3 ⟨v3, rfl, ho3, hb3⟩
          obtain ⟨C3, d3, rfl, -⟩ := ho3.form
          have B3 := Lib.hid (B2d.out.trans (hb3.mono B2d.out.size))
          have O3 := Lib.hid ho3
          have hS1 : Below w.heap.size w w3 ∧ w3.cell? ⟨wr.heap.size, 0, none⟩ = some (.slice Ak x.1.length ck) ∧ w3.cell? ⟨wr.heap.size, 1, none⟩ = some (.slice Ar x.2.length cr) := ⟨hHeld.1.trans (hb3.mono hHeld.1.size), cell_bel hb3 hHeld.2.1, cell_bel hb3 hHeld.2.2⟩
          have S23 := Lib.hid hb3.size
          clear hb3 ho3 hHeld
          go_wp2_with fail
          refine hK.out _ _ hS1 (fun hHeld => ?_)
          clear hK K
          try simp only [Act.put, List.getElem_toArray, List.getElem_cons_zero, List.getElem_cons_succ, List.setIfInBounds_toArray, List.set_cons_zero, List.set_cons_succ]
          clear hS1
          refine wpAnyH_ready (rs := [6]) (by kernel_rfl) (by simp) ?_
          refine AllReadyH.cons rfl (fun K hK => ?_) AllReadyH.nil
          go_simp
          refine (CLR.out _ B3.out).mono ?_
          rintro e w4 ⟨v4, rfl, ho4, hb4⟩
          obtain ⟨C4, d4, rfl, -⟩ := ho4.form
          have B4 := Lib.hid (B3.out.trans (hb4.mono B3.out.size))
          have O4 := Lib.hid ho4
          have O3b := Lib.hid (O3.out.below hb4 (Nat.le_refl _))
          have hS2 : Below w.heap.size w w4 ∧ w4.cell? ⟨wr.heap.size, 0, none⟩ = some (.slice Ak x.1.length ck) ∧ w4.cell? ⟨wr.heap.size, 1, none⟩ = some (.slice Ar x.2.length cr) := ⟨hHeld.1.trans (hb4.mono hHeld.1.size), cell_bel hb4 hHeld.2.1, cell_bel hb4 hHeld.2.2⟩
          have S34 := Lib.hid hb4.size
          clear hb4 ho4 hHeld
          go_wp2_with fail
          refine hK.out _ _ hS2 (fun hHeld => ?_)
          clear hK K
          try simp only [Act.put, List.getElem_toArray, List.getElem_cons_zero, List.getElem_cons_succ, List.setIfInBounds_toArray, List.set_cons_zero, List.set_cons_succ]
          clear hS2
          refine wpAnyH_take (i := 7) (v := ?_) rfl (by kernel_rfl) (by kernel_rfl) (by kernel_rfl) (fun _ _ _ h => h) (Or.inl ⟨by rfl, ?_⟩) (by assumption) ?_
          rotate_left 1
          · intro w' hSw; (try dsimp only at hSw); go_simp; try (with_reducible rfl)
          try simp only [Act.put, List.getElem_toArray, List.getElem_cons_zero, List.getElem_cons_succ, List.setIfInBounds_toArray, List.set_cons_zero, List.set_cons_succ]
          refine wpAnyH_ready (rs := [8]) (by kernel_rfl) (by simp) ?_
          refine AllReadyH.cons rfl (fun K hK => ?_) AllReadyH.nil
          go_simp
          obtain ⟨WL, hWL⟩ : ∃ WL, WL = w4.alloc (.cells #[.slice C3 x.1.length d3, .slice C4 x.2.length d4] 54) := ⟨_, rfl⟩
          have B4L : Below w4.heap.size w4 WL := hWL ▸ box1 _ _
          have NL : VN WL w4.heap.size [.slice C3 x.1.length d3, .slice C4 x.2.length d4] := hWL ▸ VN.new w4 _ _
          have ownL := Lib.hid (Dk.owns_of_block OWN.out fun g hg => ((B4.out.trans (B4L.mono B4.out.size)).block g (World.ownsRow.lt OWN.out g hg).2))
          have hS3 : Below w.heap.size w WL ∧ WL.cell? ⟨wr.heap.size, 0, none⟩ = some (.slice Ak x.1.length ck) ∧ WL.cell? ⟨wr.heap.size, 1, none⟩ = some (.slice Ar x.2.length cr) := ⟨hHeld.1.trans (B4L.mono hHeld.1.size), cell_bel B4L hHeld.2.1, cell_bel B4L hHeld.2.2⟩
          have litP : RowP WL WL.heap.size (some ⟨w4.heap.size, 0, none⟩) 1 [(.slice C3 x.1.length d3, .slice C4 x.2.length d4)] := ⟨Nat.le_refl _, by unfold maxLen; simp, fun e => (by cases e), fun p hp => (by simp at hp; subst hp; exact ⟨rfl, rfl⟩), fun _ => ⟨_, _, rfl, NL.lt, fun i p hi => by
            cases i with
            | zero => simp at hi; subst hi; exact ⟨NL.c 0 _ rfl, NL.c 1 _ rfl⟩
            | succ i => simp at hi⟩⟩
          have P3 := Lib.hid ((O3b.out.below B4L (Nat.le_refl _)))
          have P4 := Lib.hid ((O4.out.below B4L (Nat.le_refl _)))
          have LITP := Lib.hid litP
          have BL := Lib.hid B4L
          rw [← hWL]
          have S4L := Lib.hid B4L.size
          clear hWL litP B4L NL hHeld
          refine hK.out _ _ hS3 (fun hHeld => ?_)
          clear hK K hS3
          try simp only [Act.put, List.getElem_toArray, List.getElem_cons_zero, List.getElem_cons_succ, List.setIfInBounds_toArray, List.set_cons_zero, List.set_cons_succ]
          refine wpAnyH_ready (rs := [9]) (by kernel_rfl) (by simp) ?_
          refine AllReadyH.cons rfl (fun K hK => ?_) AllReadyH.nil
          have hlo := World.ownsRow.lt OWN.out
          have hoW : ∀ q, u5.ownBlock = some q → w.heap.size ≤ q ∧ q < wr.heap.size := fun q e => ⟨by have := OB.out q e; have := HB.out.size; omega, (hlo q e).2⟩
          have htl : ts.length ≤ 1000000 := by
            have h1 := AL.out.1
            have h2 := List.length_filter_le (fun x => inS fr tu x.1) (li.take k)
            have h3 := List.length_take_le k li
            have := HLT.out; have := HN.out; have := HLEN.out
            omega
          refine step_append_pr rfl (.tmp 19) (.tmp 27) rfl w.heap.size u5 ts (by first | rfl | (simp [Act.eval, Act.put]; done)) ownL.out WL.heap.size (some ⟨w4.heap.size, 0, none⟩) 1 1 [(.slice C3 x.1.length d3, .slice C4 x.2.length d4)] (by first | rfl | (simp [Act.eval, Act.put]; done)) rfl LITP.out (by simp; omega) (Nat.le_trans hHeld.1.size (Nat.le_refl _)) ?_
          intro v5 w5 hown5 hg5 hr5
          have hwb : wr.heap.size < WL.heap.size := World.block_lt_of_cell? _ _ hHeld.2.1
          have hkeep : ∀ (i : Nat) (u : Value), WL.cell? ⟨wr.heap.size, i, none⟩ = some u → w5.cell? ⟨wr.heap.size, i, none⟩ = some u := fun i u e => (World.cell?_of_block (w := WL) (hg5.block wr.heap.size hwb (fun e2 => by have := (hoW _ e2.symm).2; omega))).trans e
          have hS4 : Below w.heap.size w w5 ∧ w5.cell? ⟨wr.heap.size, 0, none⟩ = some (.slice Ak x.1.length ck) ∧ w5.cell? ⟨wr.heap.size, 1, none⟩ = some (.slice Ar x.2.length cr) := ⟨bel_grown hHeld.1 hHeld.1.size hg5 (fun q e => (hoW q e).1), hkeep _ _ hHeld.2.1, hkeep _ _ hHeld.2.2⟩
          have HO5 := Lib.hid hown5; have HG5 := Lib.hid hg5; have HR5 := Lib.hid hr5; have HoW := Lib.hid hoW; have HWB := Lib.hid hwb
          have KB5 := Lib.hid ((KB.out.bel (B4.out.trans (BL.out.mono B4.out.size))).of_block (hg5.block _ (by have := KB.out.lt; omega) (fun e2 => by have := OB.out _ e2.symm; have := HK.out.lt; omega)) hg5.size)
          clear hown5 hg5 hr5 hoW hlo htl hkeep hwb hHeld
          refine hK.out _ _ hS4 (fun hHeld => ?_)
          clear hK K hS4
          try simp only [Act.put, List.getElem_toArray, List.getElem_cons_zero, List.getElem_cons_succ, List.setIfInBounds_toArray, List.set_cons_zero, List.set_cons_succ]
          refine wpAnyH_take (i := 10) (v := ?_) rfl (by kernel_rfl) (by kernel_rfl) (by kernel_rfl) (fun _ _ _ h => h) (Or.inl ⟨by rfl, ?_⟩) (by assumption) ?_
          rotate_left 1
          · intro w' hSw; (try dsimp only at hSw); go_simp; try (with_reducible rfl)
          try simp only [Act.put, List.getElem_toArray, List.getElem_cons_zero, List.getElem_cons_succ, List.setIfInBounds_toArray, List.set_cons_zero, List.set_cons_succ]
          refine wpAnyH_done (by kernel_rfl) ?_ _
          refine NoPanic.normal ?_
          try dsimp only [Exit.then]
          refine HK3.out _ _ ?_
          have HB5 := Lib.hid hHeld.1
          clear HK3 hHeld
          go_wp2_with fail
          go_roundw
          case rel =>
            have h3 : RdF WL (fun q => q < w.heap.size ∨ u5.ownBlock = some q) (.slice C3 x.1.length d3) x.1 := RdF.own P3.out (fun q e => by
              have := B2d.out.size; have := BR.out.size
              rcases e with e | e
              · omega
              · have := (HoW.out q e).2; omega)
            have h4 : RdF WL (fun q => q < w.heap.size ∨ u5.ownBlock = some q) (.slice C4 x.2.length d4) x.2 := RdF.own P4.out (fun q e => by
              have := B2d.out.size; have := BR.out.size; have := S23.out
              rcases e with e | e
              · omega
              · have := (HoW.out q e).2; omega)
            have a1 := (AL.out.imp (w' := WL) fun v x h => h.kf (kfb (B4.out.trans (BL.out.mono B4.out.size)))).app (AlP.one (p := (.slice C3 x.1.length d3, .slice C4 x.2.length d4)) (x := x) h3 h4)
            have a2 := a1.imp (w' := w5) fun v x h => rdf_grown h HG5.out HR5.out
            refine ⟨k + 1, HLT.out, by go_num, Lib.hid ⟨_, HO5.out, ?_, HB5.out, KB5.out, fun q e => ?_, ?_⟩⟩
            · rw [filter_take _ _ hkl, ← HX.out, ← HBI.out, if_pos rfl]
              exact a2
            · rcases HR5.out with e2 | e2
              · exact OB.out q (e2 ▸ e)
              · rw [e2] at e; injection e with e
                have := WS.out; have := HWB.out
                omega
            · have := WS.out; have := HWB.out; have := HG5.out.size
              omega
          case measure => rw [J2.out]; exact meas HLT.out
    · obtain rfl : k = n := by omega
      have hfin := AL.out
      rw [List.take_of_length_le (by have := HN.out; omega)] at hfin
      have HFIN := Lib.hid hfin
      clear hfin hlt
      go_wp2_with fail
      go_ret
      exact ⟨_, ts, rfl, OWN.out, HFIN.out, BR.out⟩
end
structure RngI (bA bK rb base : Nat) (A3 A4 : Option Addr) (c3 c4 : Nat) (fr tu : By) (acc : List It) (g : Option Nat) (w : World) : Prop where
  ex : ∃ v ts, v.ownBlock = g ∧ VN w bA [v] ∧ w.ownsRow rb 54 2 v ts.length (t2s ts) ∧ AlP w (fun q => q < rb ∨ g = some q) ts acc
  sz : rb ≤ w.heap.size
  k : VN w bK [.slice A3 fr.length c3, .slice A4 tu.length c4]
  f : RdF w (fun q => base ≤ q) (.slice A3 fr.length c3) fr
  t : RdF w (fun q => base ≤ q) (.slice A4 tu.length c4) tu
section
variable {w w' : World} {F G : Nat → Prop} {N : Nat} {v : Value} {fr tu : By} {bA bK rb base : Nat} {A3 A4 : Option Addr} {c3 c4 : Nat}
theorem RngI.bel {acc : List It} {g : Option Nat} (h : RngI bA bK rb base A3 A4 c3 c4 fr tu acc g w) (hb : Below w.heap.size w w') : RngI bA bK rb base A3 A4 c3 c4 fr tu acc g w' := by
  obtain ⟨v, ts, h1, h2, h3, h4⟩ := h.ex
  exact ⟨⟨v, ts, h1, h2.bel hb, Dk.owns_of_block h3 fun q hq => hb.block q (World.ownsRow.lt h3 q hq).2, h4.imp fun v x h => h.kf (kfb hb)⟩, Nat.le_trans h.sz hb.size, h.k.bel hb, h.f.kf (kfb hb), h.t.kf (kfb hb)⟩
theorem hcf_rng (pA pK : Value) (nv : Value) (X : World) : (callFunc 42 (#[nv] ++ #[pA, pK])).run Tryz.prog X = .ok (.enter 42 (#[nv] ++ #[pA, pK])) X := by
  show (callFunc 42 #[nv, pA, pK]).run Tryz.prog X = .ok (.enter 42 #[nv, pA, pK]) X
  go_simp
theorem rdf_more {l : By} (h : RdF w F v l) (hG : ∀ b, G b → b < w.heap.size → F b) : RdF w G v l := by
  obtain ⟨A, c, e, h1, h2, h3, h4⟩ := h
  exact ⟨A, c, e, h1, h2, h3, fun hn => by
    obtain ⟨b, o, e2, hb, hf, hc⟩ := h4 hn
    exact ⟨b, o, e2, hb, fun e => hf (hG b e hb), hc⟩⟩
theorem RngI.app {w2 w5 : World} {v2 v5 : Value} {acc fl : List It} {ts us : List V2} {g : Option Nat} {n : Nat} (hA : bA < rb) (hK : bK < rb) (hAK : bA ≠ bK) (hbA : base ≤ bA) (hI : RngI bA bK rb base A3 A4 c3 c4 fr tu acc g w) (hB : Below w.heap.size w w2) (hg : v.ownBlock = g) (hva : VN w bA [v]) (hown : w.ownsRow rb 54 2 v ts.length (t2s ts)) (hal : AlP w (fun q => q < rb ∨ g = some q) ts acc) (hn : w.heap.size ≤ n) (al2 : AlP w2 (fun q => q < n ∨ v2.ownBlock = some q) us fl) (ho5 : w5.ownsRow rb 54 2 v5 (ts ++ us).length (t2s (ts ++ us))) (hg5 : w2.grownBy w5 v.ownBlock) (hr5 : v5.ownBlock = v.ownBlock ∨ v5.ownBlock = some w2.heap.size) :
    Vs (fun q => q = bA) w g (w5.setCell ⟨bA, 0, none⟩ v5) v5.ownBlock ∧ RngI bA bK rb base A3 A4 c3 c4 fr tu (acc ++ fl) v5.ownBlock (w5.setCell ⟨bA, 0, none⟩ v5) := by
  have hlo : ∀ q, g = some q → rb ≤ q ∧ q < w.heap.size := fun q e => World.ownsRow.lt hown q (hg.trans e)
  have hlo5 := World.ownsRow.lt ho5
  have hvs : Vs (fun q => q = bA) w g (w5.setCell ⟨bA, 0, none⟩ v5) v5.ownBlock := by
    refine ⟨⟨hg5.os.trans hB.os, hg5.tape.trans hB.tape, hg5.output.trans hB.output, by rw [size_setCell]; exact Nat.le_trans hB.size hg5.size, fun q hq hp => ?_⟩, ?_⟩
    · refine (Below.heap_setCell _ _ _ _ (fun e => hp (.inl (by simpa using e)))).trans ((hg5.block q (Nat.lt_of_lt_of_le hq hB.size) (fun e => hp (.inr ?_))).trans (hB.block q hq))
      rw [← hg]; exact e.symm
    · rcases hr5 with e | e
      · exact .inl (e.trans hg)
      · exact .inr fun q e2 => by rw [e] at e2; injection e2 with e2; have := hB.size; omega
  have hS : ∀ (H : Nat → Prop), H bA → Kf H w5 (w5.setCell ⟨bA, 0, none⟩ v5) H := fun H hH => Kf.same ⟨rfl, rfl, rfl, by rw [size_setCell]; exact Nat.le_refl _, fun q hq hp => Below.heap_setCell _ _ _ _ (fun e => hp (by simp at e; exact e ▸ hH))⟩
  have hkf : Kf (fun q => base ≤ q) w (w5.setCell ⟨bA, 0, none⟩ v5) (fun q => base ≤ q) := hvs.kf (fun q e => by subst e; exact hbA) (fun q e => by have := (hlo q e).1; omega)
  refine ⟨hvs, ⟨⟨v5, ts ++ us, rfl, ?_, ?_, ?_⟩, ?_, ?_, hI.f.kf hkf, hI.t.kf hkf⟩⟩
  · have h1 : VN w5 bA [v] := (hva.bel hB).grown hg5 (fun e => by have := (hlo bA (hg ▸ e)).1; omega)
    exact h1.set 0 (by simp) v5
  · exact Dk.owns_of_block ho5 fun q hq => Below.heap_setCell _ _ _ _ (fun e => by have := (hlo5 q hq).1; simp at e; omega)
  · have a0 := hal.imp (w' := w2) fun v x h => h.kf (kfb hB)
    have a2 : AlP w2 (fun q => q < rb ∨ g = some q) us fl := al2.imp fun v x h => rdf_more h fun b hb _ => by
      rcases hb with hb | hb
      · have := hI.sz; exact .inl (by omega)
      · have := (hlo b hb).2; exact .inl (by omega)
    have a3 := a0.app a2
    rw [← hg] at a3
    have a4 := a3.imp (w' := w5) fun v x h => rdf_grown h hg5 hr5
    exact a4.imp fun v x h => h.kf (hS _ (.inl hA))
  · rw [size_setCell]; exact Nat.le_trans hI.sz (Nat.le_trans hB.size hg5.size)
  · exact (((hI.k.bel hB).grown hg5 (fun e => by have := (hlo bK (hg ▸ e)).1; omega))).other (p := ⟨bA, 0, none⟩) hAK v5
set_option maxHeartbeats 8000000 in
theorem range11 (hA : bA < rb) (hK : bK < rb) (hAK : bA ≠ bK) (hbA : base ≤ bA) {acc : List It} {g : Option Nat} (hI : RngI bA bK rb base A3 A4 c3 c4 fr tu acc g w) {k : Nat} {l : Its k} (q0 : Int) {A1 A2 A : Option Addr} {n1 n2 c1 c2 c : Nat} (hkr : KR0 w F N (.slice A l.length c) (its l)) (hs : nsz l ≤ 4011) (hM : (stR fr tu acc k l).length ≤ 1000000000) :
    Calls Tryz.prog 42 #[.agg #[.int .i64 q0, .int .i64 (k : Int), .slice A1 n1 c1, .slice A2 n2 c2, .slice A l.length c], .pointer (some ⟨bA, 0, none⟩), .pointer (some ⟨bK, 0, none⟩)] w fun e w' => e = .returned (.tuple #[]) ∧ ∃ g', Vs (fun q => q = bA) w g w' g' ∧ RngI bA bK rb base A3 A4 c3 c4 fr tu (stR fr tu acc k l) g' w' := by
  cases k with
  | succ k =>
    have k00 : (((k + 1 : Nat) : Int) == 0) = false := by simp; omega
    have e1 : (((k + 1 : Nat) : Int)) = (k : Int) + 1 := by omega
    rw [e1] at k00 ⊢
    have HI := Lib.hid hI
    clear hkr hs hM e1 hI
    go_enter Tryz.func42, Tryz.ntmps42
    go_wp2_with fail
    exact ⟨rfl, _, res_nil rfl _ _ _, rfl, g, Vs.bel (box1 _ _), HI.out.bel (box1 _ _)⟩
  | zero =>
    obtain ⟨v, ts, hg, hva, hown, hal⟩ := hI.ex
    have hst : stR fr tu acc 0 l = acc ++ (its l).filter fun x => inS fr tu x.1 := by
      show acc ++ rng fr tu 0 [] l = _
      rw [its0]; rfl
    rw [hst] at hM ⊢
    have hli : isum (its l) ≤ 1000000 := by unfold nsz at hs; omega
    have hlen : l.length ≤ 1000000 := by have := len_le_isum (its l); rw [its_length] at this; omega
    have hkr' : KR w F N (.slice A (its l).length c) (its l) := by rw [its_length]; exact hkr.kr
    obtain ⟨li, hli2⟩ : ∃ li, li = its l := ⟨_, rfl⟩
    have hlel : l.length = li.length := by rw [hli2, its_length]
    rw [← hli2] at hM hli hkr' ⊢
    rw [hlel]
    have NB := Lib.hid (VN.new w #[.int .i64 q0, .int .i64 0, .slice A1 n1 c1, .slice A2 n2 c2, .slice A li.length c] 75)
    have KB := Lib.hid (hI.k.bel (box1 w (.cells #[.int .i64 q0, .int .i64 0, .slice A1 n1 c1, .slice A2 n2 c2, .slice A li.length c] 75)))
    have VA := Lib.hid (hva.bel (box1 w (.cells #[.int .i64 q0, .int .i64 0, .slice A1 n1 c1, .slice A2 n2 c2, .slice A li.length c] 75)))
    have PR := Lib.hid (fun X (hb : Below w.heap.size w X) => pairs_any (w := X) (A1 := A1) (A2 := A2) (n1 := n1) (n2 := n2) (c1 := c1) (c2 := c2) q0 0 (hkr'.kf (kfb hb)) hli (hI.f.kf (kfb hb)) (hI.t.kf (kfb hb)))
    have OWN := Lib.hid hown; have AL := Lib.hid hal; have HG := Lib.hid hg; have HI := Lib.hid hI; have HM := Lib.hid hM; have VA0 := Lib.hid hva
    obtain ⟨Av, cv, hv⟩ := own_len' hown
    subst hv
    have HBA := Lib.hid hA; have HBK := Lib.hid hK; have HAK := Lib.hid hAK; have HBS := Lib.hid hbA
    obtain ⟨W1, hW1⟩ : ∃ X, X = w.alloc (.cells #[.int .i64 q0, .int .i64 0, .slice A1 n1 c1, .slice A2 n2 c2, .slice A li.length c] 75) := ⟨_, rfl⟩
    have BW1 := Lib.hid (show Below w.heap.size w W1 from hW1 ▸ box1 w _)
    rw [← hW1] at NB KB VA
    have HW1 := Lib.hid hW1
    have n1' := NB.out.c 1 _ rfl
    clear hI hva hown hal hg hkr hs hM hst hli hlen hkr' hli2 hlel hA hK hAK hbA hW1
    go_enter Tryz.func42, Tryz.ntmps42
    go_wp2_with fail
    rw [← HW1.out]
    have hpo := OWN.out
    have hS0 : VN W1 w.heap.size [.int .i64 q0, .int .i64 0, .slice A1 n1 c1, .slice A2 n2 c2, .slice A li.length c] ∧ VN W1 bK [.slice A3 fr.length c3, .slice A4 tu.length c4] := ⟨NB.out, KB.out⟩
    clear n1' hpo
    refine wp_region_held_drew (S := fun X => VN X w.heap.size [.int .i64 q0, .int .i64 0, .slice A1 n1 c1, .slice A2 n2 c2, .slice A li.length c] ∧ VN X bK [.slice A3 fr.length c3, .slice A4 tu.length c4]) (by kernel_rfl) (show VN W1.drew w.heap.size [.int .i64 q0, .int .i64 0, .slice A1 n1 c1, .slice A2 n2 c2, .slice A li.length c] ∧ VN W1.drew bK [.slice A3 fr.length c3, .slice A4 tu.length c4] from ⟨hS0.1.drew, hS0.2.drew⟩) (fun hHeld => ?_)
    have BD := Lib.hid BW1.out.drew
    have VAD := Lib.hid VA.out.drew
    clear hS0 NB KB VA BW1 HW1
    generalize W1.drew = wd at *
    refine wpAnyH_take (i := 1) (v := ?_) rfl (by kernel_rfl) (by kernel_rfl) (by kernel_rfl) (fun _ _ _ h => h) (Or.inl ⟨by rfl, ?_⟩) (by assumption) ?_
    rotate_left 1
    · intro w' hSw; have r0 := hSw.1.c 0 _ rfl; have r1 := hSw.1.c 1 _ rfl; have r2 := hSw.1.c 2 _ rfl; have r3 := hSw.1.c 3 _ rfl; have r4 := hSw.1.c 4 _ rfl; (try dsimp only at hSw); go_simp; try (with_reducible rfl)
    try simp only [Act.put, List.getElem_toArray, List.getElem_cons_zero, List.getElem_cons_succ, List.setIfInBounds_toArray, List.set_cons_zero, List.set_cons_succ]
    refine wpAnyH_take (i := 2) (v := ?_) rfl (by kernel_rfl) (by kernel_rfl) (by kernel_rfl) (fun _ _ _ h => h) (Or.inl ⟨by rfl, ?_⟩) (by assumption) ?_
    rotate_left 1
    · intro w' hSw; have r0 := hSw.2.c 0 _ rfl; have r1 := hSw.2.c 1 _ rfl; (try dsimp only at hSw); go_simp; try (with_reducible rfl)
    try simp only [Act.put, List.getElem_toArray, List.getElem_cons_zero, List.getElem_cons_succ, List.setIfInBounds_toArray, List.set_cons_zero, List.set_cons_succ]
    refine wpAnyH_ready (rs := [0, 3]) (by kernel_rfl) (by simp) ?_
    refine AllReadyH.cons rfl (fun K hK => ?_) (AllReadyH.cons rfl (fun K hK => ?_) AllReadyH.nil)
    · -- the variable first
      have hva := VAD.out.c 0 _ rfl
      go_simp
      clear hva
      refine hK.out _ _ hHeld (fun hHeld => ?_)
      clear hK K
      try simp only [Act.put, List.getElem_toArray, List.getElem_cons_zero, List.getElem_cons_succ, List.setIfInBounds_toArray, List.set_cons_zero, List.set_cons_succ]
      refine wpAnyH_ready (rs := [3]) (by kernel_rfl) (by simp) ?_
      refine AllReadyH.cons rfl (fun K hK => ?_) AllReadyH.nil
      go_simp
      refine (PR.out _ BD.out).mono ?_
      rintro e w2 ⟨v2, us, rfl, ho2, al2, hb2⟩
      obtain ⟨A5, c5, rfl⟩ := own_len' ho2
      have B2 := Lib.hid (BD.out.trans (hb2.mono BD.out.size))
      have O2 := Lib.hid ho2; have AL2 := Lib.hid al2
      have OWN2 := Lib.hid (Dk.owns_of_block OWN.out fun q hq => B2.out.block q (World.ownsRow.lt OWN.out q hq).2)
      have VA2 := Lib.hid (VAD.out.bel hb2)
      have SD2 := Lib.hid hb2.size
      have hS1 : VN w2 w.heap.size [.int .i64 q0, .int .i64 0, .slice A1 n1 c1, .slice A2 n2 c2, .slice A li.length c] ∧ VN w2 bK [.slice A3 fr.length c3, .slice A4 tu.length c4] := ⟨hHeld.1.bel hb2, hHeld.2.bel hb2⟩
      clear ho2 al2 hb2 hHeld
      go_wp2_with fail
      refine hK.out _ _ hS1 (fun hHeld => ?_)
      clear hK K hS1
      try simp only [Act.put, List.getElem_toArray, List.getElem_cons_zero, List.getElem_cons_succ, List.setIfInBounds_toArray, List.set_cons_zero, List.set_cons_succ]
      refine wpAnyH_ready (rs := [4]) (by kernel_rfl) (by simp) ?_
      refine AllReadyH.cons rfl (fun K hK => ?_) AllReadyH.nil
      obtain ⟨A9, c9, e9, hrp, -⟩ := RowP.own O2.out AL2.out.ones
      injection e9 with e9 _ e10
      subst e9 e10
      have hlo := World.ownsRow.lt OWN.out
      refine step_append_pr rfl (.tmp 7) (.tmp 10) rfl rb (.slice Av ts.length cv) ts (by first | rfl | (simp [Act.eval, Act.put]; done)) OWN2.out w2.heap.size A5 us.length c5 us (by first | rfl | (simp [Act.eval, Act.put]; done)) rfl hrp (by have h1 := AL.out.1; have h2 := AL2.out.1; have h3 := HM.out; rw [List.length_append] at h3; omega) (by have h1 := HI.out.sz; have h2 := B2.out.size; omega) ?_
      intro v5 w5 ho5 hg5 hr5
      obtain ⟨A7, c7, rfl⟩ := own_len' ho5
      obtain ⟨n7, hn7⟩ : ∃ n7, n7 = (ts ++ us).length := ⟨_, rfl⟩
      have hS2 : VN w5 w.heap.size [.int .i64 q0, .int .i64 0, .slice A1 n1 c1, .slice A2 n2 c2, .slice A li.length c] ∧ VN w5 bK [.slice A3 fr.length c3, .slice A4 tu.length c4] := ⟨hHeld.1.grown hg5 (fun e => by have := (hlo _ e).2; omega), hHeld.2.grown hg5 (fun e => by have := (hlo _ e).1; have := HBK.out; omega)⟩
      have VA5 := Lib.hid (VA2.out.grown hg5 (fun e => by have := (hlo _ e).1; have := HBA.out; omega))
      have FIN := Lib.hid (RngI.app HBA.out HBK.out HAK.out HBS.out HI.out B2.out HG.out VA0.out OWN.out AL.out BD.out.size AL2.out ho5 hg5 hr5)
      rw [← hn7] at FIN ⊢
      clear hrp hlo ho5 hg5 hr5 hHeld hn7
      refine hK.out _ _ hS2 (fun hHeld => ?_)
      clear hK K hS2
      try simp only [Act.put, List.getElem_toArray, List.getElem_cons_zero, List.getElem_cons_succ, List.setIfInBounds_toArray, List.set_cons_zero, List.set_cons_succ]
      refine wpAnyH_ready (rs := [5]) (by kernel_rfl) (by simp) ?_
      refine AllReadyH.cons rfl (fun K hK => ?_) AllReadyH.nil
      have hva := VA5.out.c 0 _ rfl
      have hz := VA5.out.z 0
      go_simp
      clear hva hz
      have hS3 : VN (w5.setCell ⟨bA, 0, none⟩ (.slice A7 n7 c7)) w.heap.size [.int .i64 q0, .int .i64 0, .slice A1 n1 c1, .slice A2 n2 c2, .slice A li.length c] ∧ VN (w5.setCell ⟨bA, 0, none⟩ (.slice A7 n7 c7)) bK [.slice A3 fr.length c3, .slice A4 tu.length c4] := ⟨hHeld.1.other (p := ⟨bA, 0, none⟩) (fun e => by have := VA0.out.lt; simp at e; omega) _, hHeld.2.other (p := ⟨bA, 0, none⟩) HAK.out _⟩
      clear hHeld
      refine hK.out _ _ hS3 (fun hHeld => ?_)
      clear hK K hS3
      try simp only [Act.put, List.getElem_toArray, List.getElem_cons_zero, List.getElem_cons_succ, List.setIfInBounds_toArray, List.set_cons_zero, List.set_cons_succ]
      refine wpAnyH_done (by kernel_rfl) ?_ _
      exact ⟨rfl, _, res_nil rfl _ _ _, rfl, _, FIN.out.1, FIN.out.2⟩
    · -- the pairs first
      go_simp
      refine (PR.out _ BD.out).mono ?_
      rintro e w2 ⟨v2, us, rfl, ho2, al2, hb2⟩
      obtain ⟨A5, c5, rfl⟩ := own_len' ho2
      have B2 := Lib.hid (BD.out.trans (hb2.mono BD.out.size))
      have O2 := Lib.hid ho2; have AL2 := Lib.hid al2
      have OWN2 := Lib.hid (Dk.owns_of_block OWN.out fun q hq => B2.out.block q (World.ownsRow.lt OWN.out q hq).2)
      have VA2 := Lib.hid (VAD.out.bel hb2)
      have SD2 := Lib.hid hb2.size
      have hS1 : VN w2 w.heap.size [.int .i64 q0, .int .i64 0, .slice A1 n1 c1, .slice A2 n2 c2, .slice A li.length c] ∧ VN w2 bK [.slice A3 fr.length c3, .slice A4 tu.length c4] := ⟨hHeld.1.bel hb2, hHeld.2.bel hb2⟩
      clear ho2 al2 hb2 hHeld
      go_wp2_with fail
      refine hK.out _ _ hS1 (fun hHeld => ?_)
      clear hK K hS1
      try simp only [Act.put, List.getElem_toArray, List.getElem_cons_zero, List.getElem_cons_succ, List.setIfInBounds_toArray, List.set_cons_zero, List.set_cons_succ]
      refine wpAnyH_ready (rs := [0]) (by kernel_rfl) (by simp) ?_
      refine AllReadyH.cons rfl (fun K hK => ?_) AllReadyH.nil
      have hva := VA2.out.c 0 _ rfl
      go_simp
      clear hva
      refine hK.out _ _ hHeld (fun hHeld => ?_)
      clear hK K
      try simp only [Act.put, List.getElem_toArray, List.getElem_cons_zero, List.getElem_cons_succ, List.setIfInBounds_toArray, List.set_cons_zero, List.set_cons_succ]
      refine wpAnyH_ready (rs := [4]) (by kernel_rfl) (by simp) ?_
      refine AllReadyH.cons rfl (fun K hK => ?_) AllReadyH.nil
      obtain ⟨A9, c9, e9, hrp, -⟩ := RowP.own O2.out AL2.out.ones
      injection e9 with e9 _ e10
      subst e9 e10
      have hlo := World.ownsRow.lt OWN.out
      refine step_append_pr rfl (.tmp 7) (.tmp 10) rfl rb (.slice Av ts.length cv) ts (by first | rfl | (simp [Act.eval, Act.put]; done)) OWN2.out w2.heap.size A5 us.length c5 us (by first | rfl | (simp [Act.eval, Act.put]; done)) rfl hrp (by have h1 := AL.out.1; have h2 := AL2.out.1; have h3 := HM.out; rw [List.length_append] at h3; omega) (by have h1 := HI.out.sz; have h2 := B2.out.size; omega) ?_
      intro v5 w5 ho5 hg5 hr5
      obtain ⟨A7, c7, rfl⟩ := own_len' ho5
      obtain ⟨n7, hn7⟩ : ∃ n7, n7 = (ts ++ us).length := ⟨_, rfl⟩
      have hS2 : VN w5 w.heap.size [.int .i64 q0, .int .i64 0, .slice A1 n1 c1, .slice A2 n2 c2, .slice A li.length c] ∧ VN w5 bK [.slice A3 fr.length c3, .slice A4 tu.length c4] := ⟨hHeld.1.grown hg5 (fun e => by have := (hlo _ e).2; omega), hHeld.2.grown hg5 (fun e => by have := (hlo _ e).1; have := HBK.out; omega)⟩
      have VA5 := Lib.hid (VA2.out.grown hg5 (fun e => by have := (hlo _ e).1; have := HBA.out; omega))
      have FIN := Lib.hid (RngI.app HBA.out HBK.out HAK.out HBS.out HI.out B2.out HG.out VA0.out OWN.out AL.out BD.out.size AL2.out ho5 hg5 hr5)
      rw [← hn7] at FIN ⊢
      clear hrp hlo ho5 hg5 hr5 hHeld hn7
      refine hK.out _ _ hS2 (fun hHeld => ?_)
      clear hK K hS2
      try simp only [Act.put, List.getElem_toArray, List.getElem_cons_zero, List.getElem_cons_succ, List.setIfInBounds_toArray, List.set_cons_zero, List.set_cons_succ]
      refine wpAnyH_ready (rs := [5]) (by kernel_rfl) (by simp) ?_
      refine AllReadyH.cons rfl (fun K hK => ?_) AllReadyH.nil
      have hva := VA5.out.c 0 _ rfl
      have hz := VA5.out.z 0
      go_simp
      clear hva hz
      have hS3 : VN (w5.setCell ⟨bA, 0, none⟩ (.slice A7 n7 c7)) w.heap.size [.int .i64 q0, .int .i64 0, .slice A1 n1 c1, .slice A2 n2 c2, .slice A li.length c] ∧ VN (w5.setCell ⟨bA, 0, none⟩ (.slice A7 n7 c7)) bK [.slice A3 fr.length c3, .slice A4 tu.length c4] := ⟨hHeld.1.other (p := ⟨bA, 0, none⟩) (fun e => by have := VA0.out.lt; simp at e; omega) _, hHeld.2.other (p := ⟨bA, 0, none⟩) HAK.out _⟩
      clear hHeld
      refine hK.out _ _ hS3 (fun hHeld => ?_)
      clear hK K hS3
      try simp only [Act.put, List.getElem_toArray, List.getElem_cons_zero, List.getElem_cons_succ, List.setIfInBounds_toArray, List.set_cons_zero, List.set_cons_succ]
      refine wpAnyH_done (by kernel_rfl) ?_ _
      exact ⟨rfl, _, res_nil rfl _ _ _, rfl, _, FIN.out.1, FIN.out.2⟩
end
section
variable {B : Nat} {W w w' : World} {sb db : Nat} {y y' : SLay} {s s' : Sto} {yd yd' : Dk.Lay} {d d' : Dk.Dsk} {m m' : Nat} {F G : Nat → Prop} {N : Nat} {v : Value} {fr tu : By} {bA bK rb base : Nat} {A3 A4 : Option Addr} {c3 c4 : Nat}
theorem top_tree {k p : Nat} {l : Its k} (bo : Bo B W w sb db y yd s d m) (hg : Sk.gone s d = false) (t : TreeIn s d k p l) :
    Calls Tryz.prog 41 #[pt sb] w fun e w' => ∃ A c, e = .returned (.agg #[.int .i64 (p : Int), .int .i64 (k : Int), .slice none 0 0, .slice none 0 0, .slice A l.length c]) ∧ KR0 w' (fun q => q < w.heap.size) w.heap.size (.slice A l.length c) (its l) ∧ Below w.heap.size w w' := by
  rcases t.here with ⟨rfl, rfl, hl⟩ | ⟨hp, hok, hpo⟩
  · refine (root_zero bo t.root).mono ?_
    rintro e w' ⟨rfl, h2⟩
    subst hl
    exact ⟨none, 0, rfl, ⟨none, 0, rfl, Nat.le_refl _, by unfold maxLen; omega, fun _ => rfl, fun h => absurd h (by rw [its_nil (l := ([] : Its 0)) rfl]; simp)⟩, h2⟩
  · have hr := hok.here
    have hrt := t.root
    subst hrt
    refine (top_any bo hg hpo hp t.lev hr.1 hr.2.2).mono ?_
    rintro e w' ⟨v, rfl, hv, hb⟩
    obtain ⟨A, c, e2, hrest⟩ := id hv
    rw [its_length] at e2
    subst e2
    exact ⟨A, c, rfl, hv, hb⟩
theorem vis_rng (hA : bA < rb) (hK : bK < rb) (hAK : bA ≠ bK) (hbA : base ≤ bA) : Vis 42 #[.pointer (some ⟨bA, 0, none⟩), .pointer (some ⟨bK, 0, none⟩)] (fun q => q = bA) base (RngI bA bK rb base A3 A4 c3 c4 fr tu) (stR fr tu) List.length 1000000000 where
  mono := fun a k l => by
    cases k with
    | zero => show a.length ≤ (a ++ _).length; rw [List.length_append]; omega
    | succ k => exact Nat.le_refl _
  bel := fun a g w w' h hb => h.bel hb
  low := fun a g w h => by
    obtain ⟨v, ts, h1, h2, h3, h4⟩ := h.ex
    exact ⟨fun q e => by subst e; exact ⟨hbA, h2.lt⟩, fun q e => by have := World.ownsRow.lt h3 q (h1.trans e); omega⟩
  enter := fun nv X => hcf_rng _ _ nv X
  does := fun a g w k l F N q0 A1 n1 c1 A2 n2 c2 A c hk hI hV hg hkr hs hM => range11 hA hK hAK hbA hI q0 hkr hs hM
theorem hcf_rng1 (caps : Array Value) : ∀ X, (callFunc 39 caps).run Tryz.prog X = .ok (.enter 39 caps) X := fun X => by go_simp
set_option maxHeartbeats 4000000 in
theorem range1 {k p b0 : Nat} {l : Its k} (bo : Bo B W w sb db y yd s d m) (hg : Sk.gone s d = false) (t : TreeIn s d k p l) (v0 : VN w b0 [pt sb]) (hA : bA < rb) (hK : bK < rb) (hAK : bA ≠ bK) (hbA : base ≤ bA) (hb0 : b0 ≠ bA) (hbo : ∀ q, both y yd q → q < base) (hBb : B ≤ base)
    (hI : RngI bA bK rb base A3 A4 c3 c4 fr tu [] none w) (hn : (rng fr tu k [] l).length ≤ 1000000000) :
    Calls Tryz.prog 39 #[.pointer (some ⟨b0, 0, none⟩), .pointer (some ⟨bK, 0, none⟩), .pointer (some ⟨bA, 0, none⟩)] w fun e w' => e = .returned (.tuple #[]) ∧ ∃ g', Vs (fun q => q = bA) w none w' g' ∧ RngI bA bK rb base A3 A4 c3 c4 fr tu (rng fr tu k [] l) g' w' := by
  have hlt : bA < w.heap.size := by obtain ⟨v, ts, h1, h2, h3, h4⟩ := hI.ex; exact h2.lt
  have hs : nsz l ≤ 4011 := by
    rcases t.here with ⟨rfl, rfl, hl⟩ | ⟨hp, hok, hpo⟩
    · subst hl; unfold nsz; rw [its_nil (l := ([] : Its 0)) rfl, isum_nil]; omega
    · exact hok.here.2.2
  have hok : k = 0 ∨ ∃ mm lo, Ok k mm lo [] l := by
    rcases t.here with ⟨_, hk, _⟩ | ⟨_, hok, _⟩
    · exact .inl hk
    · exact .inr ⟨_, _, hok⟩
  have TOP := Lib.hid (fun X (hb : Below w.heap.size w X) => top_tree (bo.keep hb) hg t)
  have WK := Lib.hid (fun X (hb : Below w.heap.size w X) (A : Option Addr) (c : Nat) (F : Nat → Prop) (N : Nat) (hF : ∀ q, q = bA → F q) (hkr : KR0 X F N (.slice A l.length c) (its l)) => walk_any (vis_rng (A3 := A3) (A4 := A4) (c3 := c3) (c4 := c4) (fr := fr) (tu := tu) hA hK hAK hbA) hbo hBb (fr := fr) (tu := tu) (A3 := A3) (A4 := A4) (c3 := c3) (c4 := c4) k t.lev l [] [] none X F N A none none c 0 0 0 (p : Int) (bo.keep hb) (hI.bel hb) hF (fun q e => by cases e) hkr (RdF.nil _ F) (hI.bel hb).f (hI.bel hb).t hs hok t.pgs (by rw [vst_rng, List.nil_append]; exact hn))
  have HLT := Lib.hid hlt
  have HB0A := Lib.hid hb0
  have HAK := Lib.hid hAK
  have hmf : ∀ (fn : Fn) (first cap : Array Value) (w : World), (Instr.makeFunc fn first cap).run Tryz.prog w = .ok (.func fn first cap) w := fun _ _ _ _ => rfl
  have hS0 : VN w b0 [pt sb] ∧ VN w bK [.slice A3 fr.length c3, .slice A4 tu.length c4] := ⟨v0, hI.k⟩
  clear bo hg t v0 hA hK hAK hbA hb0 hbo hBb hI hn hlt hs hok
  go_enter Tryz.func39, Tryz.ntmps39
  go_wp2_with fail
  refine wp_region_held_drew (S := fun X => VN X b0 [pt sb] ∧ VN X bK [.slice A3 fr.length c3, .slice A4 tu.length c4]) (by kernel_rfl) (show VN w.drew b0 [pt sb] ∧ VN w.drew bK [.slice A3 fr.length c3, .slice A4 tu.length c4] from ⟨hS0.1.drew, hS0.2.drew⟩) (fun hHeld => ?_)
  have BD := Lib.hid (Below.refl w.heap.size w).drew
  clear hS0
  generalize w.drew = wd at *
  refine wpAnyH_take (i := 0) (v := ?_) rfl (by kernel_rfl) (by kernel_rfl) (by kernel_rfl) (fun _ _ _ h => h) (Or.inl ⟨by rfl, ?_⟩) (by assumption) ?_
  rotate_left 1
  · intro w' hSw; have r0 := hSw.1.c 0 _ rfl; (try dsimp only at hSw); go_simp; try (with_reducible rfl)
  try simp only [Act.put, List.getElem_toArray, List.getElem_cons_zero, List.getElem_cons_succ, List.setIfInBounds_toArray, List.set_cons_zero, List.set_cons_succ]
  refine wpAnyH_take (i := 1) (v := ?_) rfl (by kernel_rfl) (by kernel_rfl) (by kernel_rfl) (fun _ _ _ h => h) (Or.inl ⟨by rfl, ?_⟩) (by assumption) ?_
  rotate_left 1
  · intro w' hSw; have r0 := hSw.1.c 0 _ rfl; (try dsimp only at hSw); go_simp; try (with_reducible rfl)
  try simp only [Act.put, List.getElem_toArray, List.getElem_cons_zero, List.getElem_cons_succ, List.setIfInBounds_toArray, List.set_cons_zero, List.set_cons_succ]
  refine wpAnyH_take (i := 3) (v := ?_) rfl (by kernel_rfl) (by kernel_rfl) (by kernel_rfl) (fun _ _ _ h => h) (Or.inl ⟨by rfl, ?_⟩) (by assumption) ?_
  rotate_left 1
  · intro w' hSw; have r0 := hSw.2.c 0 _ rfl; have r1 := hSw.2.c 1 _ rfl; (try dsimp only at hSw); go_simp; try (with_reducible rfl)
  try simp only [Act.put, List.getElem_toArray, List.getElem_cons_zero, List.getElem_cons_succ, List.setIfInBounds_toArray, List.set_cons_zero, List.set_cons_succ]
  refine wpAnyH_take (i := 4) (v := ?_) rfl (by kernel_rfl) (by kernel_rfl) (by kernel_rfl) (fun _ _ _ h => h) (Or.inl ⟨by rfl, ?_⟩) (by assumption) ?_
  rotate_left 1
  · intro w' hSw; (try dsimp only at hSw); go_simp; try (with_reducible rfl)
  try simp only [Act.put, List.getElem_toArray, List.getElem_cons_zero, List.getElem_cons_succ, List.setIfInBounds_toArray, List.set_cons_zero, List.set_cons_succ]
  refine wpAnyH_ready (rs := [2]) (by kernel_rfl) (by simp) ?_
  refine AllReadyH.cons rfl (fun K hK => ?_) AllReadyH.nil
  go_simp
  refine (TOP.out _ BD.out).mono ?_
  rintro e w2 ⟨At, ct, rfl, hkr, hb2⟩
  have B2 := Lib.hid (BD.out.trans (hb2.mono BD.out.size))
  have WK2 := Lib.hid (WK.out _ B2.out At ct _ _ (fun q e => by have h1 := HLT.out; have h2 := BD.out.size; subst e; show q < wd.heap.size; omega) hkr)
  have hS1 : VN w2 b0 [pt sb] ∧ VN w2 bK [.slice A3 fr.length c3, .slice A4 tu.length c4] := ⟨hHeld.1.bel hb2, hHeld.2.bel hb2⟩
  clear hkr hb2 hHeld TOP WK
  go_wp2_with fail
  refine hK.out _ _ hS1 (fun hHeld => ?_)
  clear hK K
  try simp only [Act.put, List.getElem_toArray, List.getElem_cons_zero, List.getElem_cons_succ, List.setIfInBounds_toArray, List.set_cons_zero, List.set_cons_succ]
  refine wpAnyH_ready (rs := [5]) (by kernel_rfl) (by simp) ?_
  refine AllReadyH.cons rfl (fun K hK => ?_) AllReadyH.nil
  go_simp
  refine WK2.out.mono ?_
  rintro e w3 ⟨rfl, g', hv, hi⟩
  rw [vst_rng, List.nil_append] at hi
  have HV := Lib.hid ((Vs.bel B2.out).trans hv)
  have HI := Lib.hid hi
  have hS2 : VN w3 b0 [pt sb] ∧ VN w3 bK [.slice A3 fr.length c3, .slice A4 tu.length c4] := ⟨hHeld.1.kf (F := fun q => q = bA ∨ (none : Option Nat) = some q) (fun e => e.elim HB0A.out (fun e => by cases e)) (Kf.same hv.fr), hHeld.2.kf (F := fun q => q = bA ∨ (none : Option Nat) = some q) (fun e => e.elim (fun e => HAK.out e.symm) (fun e => by cases e)) (Kf.same hv.fr)⟩
  clear hv hi hHeld WK2
  go_wp2_with fail
  refine hK.out _ _ hS2 (fun hHeld => ?_)
  clear hK K
  try simp only [Act.put, List.getElem_toArray, List.getElem_cons_zero, List.getElem_cons_succ, List.setIfInBounds_toArray, List.set_cons_zero, List.set_cons_succ]
  refine wpAnyH_done (by kernel_rfl) ?_ _
  exact ⟨rfl, _, res_nil rfl _ _ _, rfl, g', HV.out, HI.out⟩
theorem range_any {k p : Nat} {l : Its k} {A1 A2 : Option Addr} {c1 c2 : Nat} (bo : Bo B W w sb db y yd s d m) (hg : Sk.gone s d = false) (t : TreeIn s d k p l) (h1 : RdF w F (.slice A1 fr.length c1) fr) (h2 : RdF w F (.slice A2 tu.length c2) tu) (hB : B ≤ w.heap.size) (hn : (rng fr tu k [] l).length ≤ 1000000000) :
    Calls Tryz.prog 17 #[pt sb, .slice A1 fr.length c1, .slice A2 tu.length c2] w fun e w' => ∃ v ts, e = .returned (.tuple #[v, .int .i64 0]) ∧ w'.ownsRow (w.heap.size + 4) 54 2 v ts.length (t2s ts) ∧ AlP w' (fun q => q < w.heap.size + 4 ∨ v.ownBlock = some q) ts (rng fr tu k [] l) ∧ Below w.heap.size w w' := by
  obtain ⟨W0, hW0⟩ : ∃ X, X = ((w.alloc (.cells #[pt sb] 23)).alloc (.cells #[.slice none 0 0] 43)).alloc (.cells #[.slice A1 fr.length c1, .slice A2 tu.length c2] 72) := ⟨_, rfl⟩
  have hs0 : W0.heap.size = w.heap.size + 3 := by rw [hW0]; simp
  have B0 : Below w.heap.size w W0 := hW0 ▸ ((box1 w _).alloc (by simp) _).alloc (by simp; omega) _
  have X0 : VN W0 w.heap.size [pt sb] := hW0 ▸ ((VN.new w _ _).alloc _).alloc _
  have X1 : VN W0 (w.heap.size + 1) [.slice none 0 0] := by
    have := (VN.new (w.alloc (.cells #[pt sb] 23)) #[.slice none 0 0] 43).alloc (.cells #[.slice A1 fr.length c1, .slice A2 tu.length c2] 72)
    rw [hW0]; simpa using this
  have X2 : VN W0 (w.heap.size + 2) [.slice A1 fr.length c1, .slice A2 tu.length c2] := by
    have := VN.new ((w.alloc (.cells #[pt sb] 23)).alloc (.cells #[.slice none 0 0] 43)) #[.slice A1 fr.length c1, .slice A2 tu.length c2] 72
    rw [hW0]; simpa using this
  have hnb : ∀ b, both y yd b → b < w.heap.size := fun b hb => both_lt bo hb
  have C := Lib.hid (caught_ok (bo.keep B0) hg (f := 39) (caps := #[.pointer (some ⟨w.heap.size, 0, none⟩), .pointer (some ⟨w.heap.size + 2, 0, none⟩), .pointer (some ⟨w.heap.size + 1, 0, none⟩)]) (Q := fun w' => But (fun q => q = w.heap.size + 1) W0 w' ∧ ∃ g', RngI (w.heap.size + 1) (w.heap.size + 2) (w.heap.size + 4) (w.heap.size + 1) A1 A2 c1 c2 fr tu (rng fr tu k [] l) g' w') (hcf_rng1 _) (fun w1 hb hlt => by
    have hI : RngI (w.heap.size + 1) (w.heap.size + 2) (w.heap.size + 4) (w.heap.size + 1) A1 A2 c1 c2 fr tu [] none w1 := ⟨⟨.slice none 0 0, [], rfl, X1.bel hb, World.ownsRow_nil _ _ _ _, AlP.nil _ _⟩, by omega, X2.bel hb, ((rdf_more h1 fun b h4 h5 => absurd h4 (by show ¬ (w.heap.size + 1 ≤ b); omega)).kf (kfb B0)).kf (kfb hb), ((rdf_more h2 fun b h4 h5 => absurd h4 (by show ¬ (w.heap.size + 1 ≤ b); omega)).kf (kfb B0)).kf (kfb hb)⟩
    refine (range1 ((bo.keep B0).keep hb) hg t (X0.bel hb) (by omega) (by omega) (by omega) (Nat.le_refl _) (by omega) (fun q hq => by have := hnb q hq; omega) (by omega) hI hn).mono ?_
    rintro e w' ⟨rfl, g', hv, hi⟩
    exact ⟨rfl, ⟨(But.bel hb).trans ⟨hv.fr.os, hv.fr.tape, hv.fr.output, hv.fr.size, fun q hq hp => hv.fr.block q hq (fun e => e.elim hp (fun e => by cases e))⟩, g', hi⟩, hv.fr.size, hv.fr.block _ hlt (fun e => e.elim (fun e => by omega) (fun e => by cases e))⟩))
  have HB0 := Lib.hid B0
  have HS := Lib.hid hs0
  have HW0 := Lib.hid hW0
  clear bo hg t h1 h2 X0 X1 X2 B0 hs0 hW0 hnb hB hn
  have hmf : ∀ (fn : Fn) (first cap : Array Value) (w : World), (Instr.makeFunc fn first cap).run Tryz.prog w = .ok (.func fn first cap) w := fun _ _ _ _ => rfl
  go_enter Tryz.func17, Tryz.ntmps17
  go_wp2_with fail
  rw [← HW0.out]
  refine C.out.mono ?_
  rintro e w5 ⟨rfl, w4, ⟨hbut, g', hi⟩, hO⟩
  obtain ⟨v, ts, rfl, h2, h3, h4⟩ := hi.ex
  have l2 := h2.lt
  have hss := HS.out
  obtain ⟨Av, cv, rfl⟩ := own_len' h3
  have Y1 := Lib.hid (h2.of_block (hO.block _ (by omega)) (Nat.le_of_eq hO.size.symm))
  have a2 : w5.cell? ⟨w.heap.size + 1, 0, none⟩ = some (.slice Av ts.length cv) := Y1.out.c 0 _ rfl
  have OWN := Lib.hid (Dk.owns_of_block h3 (w' := w5) fun q hq => hO.block q (by have := (World.ownsRow.lt h3 q hq).1; omega))
  have AL := Lib.hid (h4.imp (w' := w5) fun v x h => h.kf (Kf.same ⟨hO.os, hO.tape, hO.output, Nat.le_of_eq hO.size.symm, fun b _ hb => hO.block b (fun e => hb (.inl (by omega)))⟩))
  have GG := Lib.hid hbut
  have OO := Lib.hid hO
  clear hbut hO l2 hss hi h2 h3 h4
  go_wp2_with fail
  have hs := HS.out
  go_ret2
  exact ⟨_, ts, rfl, OWN.out, AL.out, OO.out.bel (Below.butt HB0.out GG.out (fun q h => by omega)) (by omega)⟩
end
structure SzI (bP bD bN base : Nat) (a : Sz) (g : Option Nat) (w : World) : Prop where
  none : g = none
  p : VN w bP [.int .i64 (a.p : Int)]
  q : VN w bD [.int .i64 (a.q : Int)]
  n : VN w bN [.int .i64 (a.n : Int)]
section
variable {B : Nat} {W w w' : World} {sb db : Nat} {y y' : SLay} {s s' : Sto} {yd yd' : Dk.Lay} {d d' : Dk.Dsk} {m m' : Nat} {F G : Nat → Prop} {N : Nat} {v : Value} {bP bD bN base : Nat}
theorem SzI.bel {a : Sz} {g : Option Nat} (h : SzI bP bD bN base a g w) (hb : Below w.heap.size w w') : SzI bP bD bN base a g w' := ⟨h.none, h.p.bel hb, h.q.bel hb, h.n.bel hb⟩
theorem hcf_size11 (p q n : Value) (nv : Value) (X : World) : (callFunc 50 (#[nv] ++ #[p, q, n])).run Tryz.prog X = .ok (.enter 50 (#[nv] ++ #[p, q, n])) X := by
  show (callFunc 50 #[nv, p, q, n]).run Tryz.prog X = .ok (.enter 50 #[nv, p, q, n]) X
  go_simp
theorem SzI.put {a : Sz} {g : Option Nat} {W1 : World} (h : SzI bP bD bN base a g w) (hb : Below w.heap.size w W1) (h1 : bP ≠ bD) (h2 : bP ≠ bN) (h3 : bD ≠ bN) {x : Sz} (W2 : World) (hW2 : W2 = (((W1.setCell ⟨bP, 0, .none⟩ (.int .i64 (x.p : Int))).setCell ⟨bD, 0, .none⟩ (.int .i64 (x.q : Int))).setCell ⟨bN, 0, .none⟩ (.int .i64 (x.n : Int)))) :
    Vs (fun q => q = bP ∨ q = bD ∨ q = bN) w g W2 g ∧ SzI bP bD bN base x g W2 := by
  subst hW2
  refine ⟨⟨⟨hb.os, hb.tape, hb.output, by simp only [size_setCell]; exact hb.size, fun q hq hp => ?_⟩, .inl rfl⟩, h.none, ?_, ?_, ?_⟩
  · exact (Below.heap_setCell _ _ _ _ (fun e => hp (.inl (.inr (.inr e))))).trans ((Below.heap_setCell _ _ _ _ (fun e => hp (.inl (.inr (.inl e))))).trans ((Below.heap_setCell _ _ _ _ (fun e => hp (.inl (.inl e)))).trans (hb.block q hq)))
  · exact (((h.p.bel hb).set 0 (by simp) _).other (p := ⟨bD, 0, .none⟩) h1.symm _).other (p := ⟨bN, 0, .none⟩) h2.symm _
  · exact (((h.q.bel hb).other (p := ⟨bP, 0, .none⟩) h1 _).set 0 (by simp) _).other (p := ⟨bN, 0, .none⟩) h3.symm _
  · exact (((h.n.bel hb).other (p := ⟨bP, 0, .none⟩) h2 _).other (p := ⟨bD, 0, .none⟩) h3 _).set 0 (by simp) _
theorem SzI.put2 {a : Sz} {g : Option Nat} {W1 : World} (h : SzI bP bD bN base a g w) (hb : Below w.heap.size w W1) (h1 : bP ≠ bD) (h2 : bP ≠ bN) (h3 : bD ≠ bN) {x : Sz} (hx : x.n = a.n) (W2 : World) (hW2 : W2 = ((W1.setCell ⟨bP, 0, .none⟩ (.int .i64 (x.p : Int))).setCell ⟨bD, 0, .none⟩ (.int .i64 (x.q : Int)))) :
    Vs (fun q => q = bP ∨ q = bD ∨ q = bN) w g W2 g ∧ SzI bP bD bN base x g W2 := by
  subst hW2
  refine ⟨⟨⟨hb.os, hb.tape, hb.output, by simp only [size_setCell]; exact hb.size, fun q hq hp => ?_⟩, .inl rfl⟩, h.none, ?_, ?_, ?_⟩
  · exact (Below.heap_setCell _ _ _ _ (fun e => hp (.inl (.inr (.inl e))))).trans ((Below.heap_setCell _ _ _ _ (fun e => hp (.inl (.inl e)))).trans (hb.block q hq))
  · exact ((h.p.bel hb).set 0 (by simp) _).other (p := ⟨bD, 0, .none⟩) h1.symm _
  · exact ((h.q.bel hb).other (p := ⟨bP, 0, .none⟩) h1 _).set 0 (by simp) _
  · rw [hx]; exact ((h.n.bel hb).other (p := ⟨bP, 0, .none⟩) h2 _).other (p := ⟨bD, 0, .none⟩) h3 _
set_option maxHeartbeats 4000000 in
theorem size11 (h12 : bP ≠ bD) (h13 : bP ≠ bN) (h23 : bD ≠ bN) {a : Sz} {g : Option Nat} (hI : SzI bP bD bN base a g w) {k : Nat} (q0 : Int) {A1 A2 A : Option Addr} {n1 n2 n c1 c2 c : Nat} (hk : k < 256) (hM : a.n + (if k = 0 then n else 0) + (a.p + 1) ≤ 1000000000) (hq : a.q ≤ 1000000000) :
    Calls Tryz.prog 50 #[.agg #[.int .i64 q0, .int .i64 (k : Int), .slice A1 n1 c1, .slice A2 n2 c2, .slice A n c], .pointer (some ⟨bP, 0, none⟩), .pointer (some ⟨bD, 0, none⟩), .pointer (some ⟨bN, 0, none⟩)] w fun e w' => e = .returned (.tuple #[]) ∧ ∃ g', Vs (fun q => q = bP ∨ q = bD ∨ q = bN) w g w' g' ∧ SzI bP bD bN base ⟨a.n + (if k = 0 then n else 0), a.p + 1, max a.q (k + 1)⟩ g' w' := by
  obtain ⟨kk, hkk⟩ : ∃ kk : Int, kk = (k : Int) := ⟨_, rfl⟩
  rw [← hkk]
  obtain ⟨W1, hW1⟩ : ∃ X, X = w.alloc (.cells #[.int .i64 q0, .int .i64 kk, .slice A1 n1 c1, .slice A2 n2 c2, .slice A n c] 75) := ⟨_, rfl⟩
  have B1 : Below w.heap.size w W1 := hW1 ▸ box1 w _
  have NB : VN W1 w.heap.size [.int .i64 q0, .int .i64 kk, .slice A1 n1 c1, .slice A2 n2 c2, .slice A n c] := hW1 ▸ VN.new w _ _
  have hl1 := hI.p.lt; have hl2 := hI.q.lt; have hl3 := hI.n.lt
  have e1 : bP ≠ w.heap.size := by omega
  have e2 : bD ≠ w.heap.size := by omega
  have e3 : bN ≠ w.heap.size := by omega
  have e12 := h12.symm; have e13 := h13.symm; have e23 := h23.symm
  have P1 := hI.p.bel B1; have P2 := hI.q.bel B1; have P3 := hI.n.bel B1
  have a1 := P1.c 0 _ rfl; have a2 := P2.c 0 _ rfl; have a3 := P3.c 0 _ rfl
  have z1 := P1.z 0; have z2 := P2.z 0; have z3 := P3.z 0
  have m1 := NB.c 1 _ rfl; have m4 := NB.c 4 _ rfl
  have j1 : wrap64 ((a.p : Int) + 1) = (a.p : Int) + 1 := by unfold wrap64; omega
  have j2 : wrap64 (kk + 1) = kk + 1 := by unfold wrap64; omega
  have PUT := Lib.hid (fun x W2 hW2 => SzI.put hI B1 h12 h13 h23 (x := x) W2 hW2)
  have PUT2 := Lib.hid (fun x hx W2 hW2 => SzI.put2 hI B1 h12 h13 h23 (x := x) hx W2 hW2)
  have HKK := Lib.hid hkk
  subst hW1
  clear B1 NB hl1 hl2 hl3 P1 P2 P3 hI
  by_cases hk0 : k = 0
  · have k00 : (kk == 0) = true := by subst hk0; subst hkk; rfl
    have HK0 := Lib.hid hk0
    have j3 : wrap64 ((a.n : Int) + (n : Int)) = (a.n : Int) + (n : Int) := by rw [if_pos hk0] at hM; unfold wrap64; omega
    clear hM hk hq hk0 hkk
    go_enter Tryz.func50, Tryz.ntmps50
    go_wp2_with fail
    have hk0 := HK0.out
    have q1 : ((a.p + 1 : Nat) : Int) = (a.p : Int) + 1 := by omega
    have q2 : ((max a.q 1 : Nat) : Int) = max (a.q : Int) (kk + 1) := by rw [HKK.out]; omega
    have q3 : ((a.n + n : Nat) : Int) = (a.n : Int) + (n : Int) := by omega
    have r := PUT.out ⟨a.n + n, a.p + 1, max a.q 1⟩ _ rfl
    dsimp only at r
    rw [q1, q2, q3] at r
    exact ⟨rfl, _, res_nil rfl _ _ _, rfl, g, r.1, r.2⟩
  · have k00 : (kk == 0) = false := by subst hkk; simpa using hk0
    have HK0 := Lib.hid hk0
    clear hM hk hq hk0 hkk
    go_enter Tryz.func50, Tryz.ntmps50
    go_wp2_with fail
    have q1 : ((a.p + 1 : Nat) : Int) = (a.p : Int) + 1 := by omega
    have q2 : ((max a.q (k + 1) : Nat) : Int) = max (a.q : Int) (kk + 1) := by rw [HKK.out]; omega
    have r := PUT2.out ⟨a.n, a.p + 1, max a.q (k + 1)⟩ rfl _ rfl
    dsimp only at r
    rw [q1, q2] at r
    exact ⟨rfl, _, res_nil rfl _ _ _, rfl, g, r.1, r.2⟩
theorem vis_size (h12 : bP ≠ bD) (h13 : bP ≠ bN) (h23 : bD ≠ bN) (b1 : base ≤ bP) (b2 : base ≤ bD) (b3 : base ≤ bN) : Vis 50 #[.pointer (some ⟨bP, 0, none⟩), .pointer (some ⟨bD, 0, none⟩), .pointer (some ⟨bN, 0, none⟩)] (fun q => q = bP ∨ q = bD ∨ q = bN) base (fun a g w => SzI bP bD bN base a g w ∧ a.q ≤ 256) stS (fun a => a.n + a.p) 1000000000 where
  mono := fun a k l => by unfold stS; dsimp only; omega
  bel := fun a g w w' h hb => ⟨h.1.bel hb, h.2⟩
  low := fun a g w h => ⟨fun q e => by
    rcases e with e | e | e <;> subst e
    · exact ⟨b1, h.1.p.lt⟩
    · exact ⟨b2, h.1.q.lt⟩
    · exact ⟨b3, h.1.n.lt⟩, fun q e => by rw [h.1.none] at e; cases e⟩
  enter := fun nv X => hcf_size11 _ _ _ nv X
  does := fun a g w k l F N q0 A1 n1 c1 A2 n2 c2 A c hk hI hV hg hkr hs hM => by
    unfold stS at hM ⊢
    dsimp only at hM ⊢
    refine (size11 h12 h13 h23 hI.1 q0 hk (by omega) (by have := hI.2; omega)).mono ?_
    rintro e w' ⟨he, g', hv, hi⟩
    exact ⟨he, g', hv, hi, by show max a.q (k + 1) ≤ 256; have := hI.2; omega⟩
theorem hcf_size1 (caps : Array Value) : ∀ X, (callFunc 48 caps).run Tryz.prog X = .ok (.enter 48 caps) X := fun X => by go_simp
def szOf (p k : Nat) (l : Its k) : Sz := if p = 0 then ⟨0, 0, 0⟩ else vst stS [] [] k [] l ⟨0, 0, 0⟩
set_option maxHeartbeats 4000000 in
theorem size1 {k p b0 : Nat} {l : Its k} (bo : Bo B W w sb db y yd s d m) (hg : Sk.gone s d = false) (t : TreeIn s d k p l) (v0 : VN w b0 [pt sb]) (h12 : bP ≠ bD) (h13 : bP ≠ bN) (h23 : bD ≠ bN) (b1 : base ≤ bP) (b2 : base ≤ bD) (b3 : base ≤ bN) (h01 : b0 ≠ bP) (h02 : b0 ≠ bD) (h03 : b0 ≠ bN) (hbo : ∀ q, both y yd q → q < base) (hBb : B ≤ base)
    (hI : SzI bP bD bN base ⟨0, 0, 0⟩ none w) (hn : (vst stS [] [] k [] l ⟨0, 0, 0⟩).n + (vst stS [] [] k [] l ⟨0, 0, 0⟩).p ≤ 1000000000) :
    Calls Tryz.prog 48 #[.pointer (some ⟨b0, 0, none⟩), .pointer (some ⟨bP, 0, none⟩), .pointer (some ⟨bD, 0, none⟩), .pointer (some ⟨bN, 0, none⟩)] w fun e w' => e = .returned (.tuple #[]) ∧ ∃ g', Vs (fun q => q = bP ∨ q = bD ∨ q = bN) w none w' g' ∧ SzI bP bD bN base (szOf p k l) g' w' := by
  have hroot := Root_any bo.is bo.st.is
  rw [if_neg (by rw [hg]; simp), t.root] at hroot
  have ROOT := Lib.hid hroot
  have hs : nsz l ≤ 4011 := by
    rcases t.here with ⟨rfl, rfl, hl⟩ | ⟨hp, hok, hpo⟩
    · subst hl; unfold nsz; rw [its_nil (l := ([] : Its 0)) rfl, isum_nil]; omega
    · exact hok.here.2.2
  have hok : k = 0 ∨ ∃ mm lo, Ok k mm lo [] l := by
    rcases t.here with ⟨_, hk, _⟩ | ⟨_, hok, _⟩
    · exact .inl hk
    · exact .inr ⟨_, _, hok⟩
  have TOP := Lib.hid (fun X (hb : Below w.heap.size w X) => top_tree (bo.keep hb) hg t)
  have WK := Lib.hid (fun X (hb : Below w.heap.size w X) (A : Option Addr) (c : Nat) (F : Nat → Prop) (N : Nat) (hF : ∀ q, (q = bP ∨ q = bD ∨ q = bN) → F q) (hkr : KR0 X F N (.slice A l.length c) (its l)) => walk_any (vis_size h12 h13 h23 b1 b2 b3) hbo hBb (fr := []) (tu := []) (A3 := none) (A4 := none) (c3 := 0) (c4 := 0) k t.lev l [] ⟨0, 0, 0⟩ none X F N A none none c 0 0 0 (p : Int) (bo.keep hb) ⟨hI.bel hb, by show 0 ≤ 256; omega⟩ hF (fun q e => by cases e) hkr (RdF.nil _ F) (RdF.nil _ _) (RdF.nil _ _) hs hok t.pgs hn)
  have HI := Lib.hid hI
  have H0 := Lib.hid (show ∀ q, (q = bP ∨ q = bD ∨ q = bN) → b0 ≠ q ∧ q < w.heap.size from fun q e => by
    have g1 := hI.p.lt; have g2 := hI.q.lt; have g3 := hI.n.lt
    rcases e with e | e | e <;> subst e
    · exact ⟨h01, g1⟩
    · exact ⟨h02, g2⟩
    · exact ⟨h03, g3⟩)
  have hmf : ∀ (fn : Fn) (first cap : Array Value) (w : World), (Instr.makeFunc fn first cap).run Tryz.prog w = .ok (.func fn first cap) w := fun _ _ _ _ => rfl
  have HV0 := Lib.hid v0
  have c0 := v0.c 0 _ rfl
  clear bo hg t v0 h12 h13 h23 b1 b2 b3 h01 h02 h03 hbo hBb hI hn hs hok hroot
  by_cases hp : p = 0
  · have k00 : ((p : Int) == 0) = true := by rw [hp]; rfl
    have HP := Lib.hid hp
    clear hp TOP WK
    go_enter Tryz.func48, Tryz.ntmps48
    go_wp2_with fail
    refine ROOT.out.mono ?_
    rintro e w1 ⟨rfl, hb⟩
    have B1 := Lib.hid hb
    clear hb
    go_wp2_with fail
    exact ⟨rfl, _, res_nil rfl _ _ _, rfl, none, Vs.bel B1.out, by unfold szOf; rw [if_pos HP.out]; exact HI.out.bel B1.out⟩
  · have k00 : ((p : Int) == 0) = false := by simpa using hp
    have HP := Lib.hid hp
    clear hp
    go_enter Tryz.func48, Tryz.ntmps48
    go_wp2_with fail
    refine ROOT.out.mono ?_
    rintro e w1 ⟨rfl, hb⟩
    have B1 := Lib.hid hb
    clear hb
    go_wp2_with fail
    have hS0 := (HV0.out.bel B1.out).drew
    refine wp_region_held_drew (S := fun X => VN X b0 [pt sb]) (by kernel_rfl) hS0 (fun hHeld => ?_)
    have BD := Lib.hid B1.out.drew
    clear hS0
    generalize w1.drew = wd at *
    refine wpAnyH_take (i := 0) (v := ?_) rfl (by kernel_rfl) (by kernel_rfl) (by kernel_rfl) (fun _ _ _ h => h) (Or.inl ⟨by rfl, ?_⟩) (by assumption) ?_
    rotate_left 1
    · intro w' hSw; have r0 := hSw.c 0 _ rfl; (try dsimp only at hSw); go_simp; try (with_reducible rfl)
    try simp only [Act.put, List.getElem_toArray, List.getElem_cons_zero, List.getElem_cons_succ, List.setIfInBounds_toArray, List.set_cons_zero, List.set_cons_succ]
    refine wpAnyH_take (i := 1) (v := ?_) rfl (by kernel_rfl) (by kernel_rfl) (by kernel_rfl) (fun _ _ _ h => h) (Or.inl ⟨by rfl, ?_⟩) (by assumption) ?_
    rotate_left 1
    · intro w' hSw; have r0 := hSw.c 0 _ rfl; (try dsimp only at hSw); go_simp; try (with_reducible rfl)
    try simp only [Act.put, List.getElem_toArray, List.getElem_cons_zero, List.getElem_cons_succ, List.setIfInBounds_toArray, List.set_cons_zero, List.set_cons_succ]
    refine wpAnyH_take (i := 3) (v := ?_) rfl (by kernel_rfl) (by kernel_rfl) (by kernel_rfl) (fun _ _ _ h => h) (Or.inl ⟨by rfl, ?_⟩) (by assumption) ?_
    rotate_left 1
    · intro w' hSw; (try dsimp only at hSw); go_simp; try (with_reducible rfl)
    try simp only [Act.put, List.getElem_toArray, List.getElem_cons_zero, List.getElem_cons_succ, List.setIfInBounds_toArray, List.set_cons_zero, List.set_cons_succ]
    refine wpAnyH_take (i := 4) (v := ?_) rfl (by kernel_rfl) (by kernel_rfl) (by kernel_rfl) (fun _ _ _ h => h) (Or.inl ⟨by rfl, ?_⟩) (by assumption) ?_
    rotate_left 1
    · intro w' hSw; (try dsimp only at hSw); go_simp; try (with_reducible rfl)
    try simp only [Act.put, List.getElem_toArray, List.getElem_cons_zero, List.getElem_cons_succ, List.setIfInBounds_toArray, List.set_cons_zero, List.set_cons_succ]
    refine wpAnyH_ready (rs := [2]) (by kernel_rfl) (by simp) ?_
    refine AllReadyH.cons rfl (fun K hK => ?_) AllReadyH.nil
    go_simp
    refine (TOP.out _ BD.out).mono ?_
    rintro e w2 ⟨At, ct, rfl, hkr, hb2⟩
    have B2 := Lib.hid (BD.out.trans (hb2.mono BD.out.size))
    have WK2 := Lib.hid (WK.out _ B2.out At ct _ _ (fun q e => by have h1 := (H0.out q e).2; have h2 := BD.out.size; show q < wd.heap.size; omega) hkr)
    have hS1 : VN w2 b0 [pt sb] := hHeld.bel hb2
    clear hkr hb2 hHeld TOP WK
    go_wp2_with fail
    refine hK.out _ _ hS1 (fun hHeld => ?_)
    clear hK K
    try simp only [Act.put, List.getElem_toArray, List.getElem_cons_zero, List.getElem_cons_succ, List.setIfInBounds_toArray, List.set_cons_zero, List.set_cons_succ]
    refine wpAnyH_ready (rs := [5]) (by kernel_rfl) (by simp) ?_
    refine AllReadyH.cons rfl (fun K hK => ?_) AllReadyH.nil
    go_simp
    refine WK2.out.mono ?_
    rintro e w3 ⟨rfl, g', hv, hi⟩
    have HV := Lib.hid ((Vs.bel B2.out).trans hv)
    have HI2 := Lib.hid hi.1
    have hS2 : VN w3 b0 [pt sb] := hHeld.kf (F := fun q => (q = bP ∨ q = bD ∨ q = bN) ∨ (none : Option Nat) = some q) (fun e => e.elim (fun e => (H0.out _ e).1 rfl) (fun e => by cases e)) (Kf.same hv.fr)
    clear hv hi hHeld WK2
    go_wp2_with fail
    refine hK.out _ _ hS2 (fun hHeld => ?_)
    clear hK K
    try simp only [Act.put, List.getElem_toArray, List.getElem_cons_zero, List.getElem_cons_succ, List.setIfInBounds_toArray, List.set_cons_zero, List.set_cons_succ]
    refine wpAnyH_done (by kernel_rfl) ?_ _
    exact ⟨rfl, _, res_nil rfl _ _ _, rfl, g', HV.out, by unfold szOf; rw [if_neg HP.out]; exact HI2.out⟩
theorem size_tree {k p : Nat} {l : Its k} (bo : Bo B W w sb db y yd s d m) (hg : Sk.gone s d = false) (t : TreeIn s d k p l) (hB : B ≤ w.heap.size) (hn : (vst stS [] [] k [] l ⟨0, 0, 0⟩).n + (vst stS [] [] k [] l ⟨0, 0, 0⟩).p ≤ 1000000000) :
    Calls Tryz.prog 22 #[pt sb] w fun e w' => e = .returned (.tuple #[.int .i64 ((szOf p k l).n : Int), .int .i64 ((szOf p k l).p : Int), .int .i64 ((szOf p k l).q : Int), .int .i64 0]) ∧ Below w.heap.size w w' := by
  obtain ⟨W0, hW0⟩ : ∃ X, X = (((w.alloc (.cells #[pt sb] 23)).alloc (.cells #[.int .i64 0] 3)).alloc (.cells #[.int .i64 0] 3)).alloc (.cells #[.int .i64 0] 3) := ⟨_, rfl⟩
  have hs0 : W0.heap.size = w.heap.size + 4 := by rw [hW0]; simp
  have B0 : Below w.heap.size w W0 := hW0 ▸ (((box1 w _).alloc (by simp) _).alloc (by simp; omega) _).alloc (by simp; omega) _
  have X0 : VN W0 w.heap.size [pt sb] := hW0 ▸ (((VN.new w _ _).alloc _).alloc _).alloc _
  have X1 : VN W0 (w.heap.size + 1) [.int .i64 0] := by
    have := ((VN.new (w.alloc (.cells #[pt sb] 23)) #[.int .i64 0] 3).alloc (.cells #[.int .i64 0] 3)).alloc (.cells #[.int .i64 0] 3)
    rw [hW0]; simpa using this
  have X2 : VN W0 (w.heap.size + 2) [.int .i64 0] := by
    have := (VN.new ((w.alloc (.cells #[pt sb] 23)).alloc (.cells #[.int .i64 0] 3)) #[.int .i64 0] 3).alloc (.cells #[.int .i64 0] 3)
    rw [hW0]; simpa using this
  have X3 : VN W0 (w.heap.size + 3) [.int .i64 0] := by
    have := VN.new (((w.alloc (.cells #[pt sb] 23)).alloc (.cells #[.int .i64 0] 3)).alloc (.cells #[.int .i64 0] 3)) #[.int .i64 0] 3
    rw [hW0]; simpa using this
  have hnb : ∀ b, both y yd b → b < w.heap.size := fun b hb => both_lt bo hb
  have C := Lib.hid (caught_ok (bo.keep B0) hg (f := 48) (caps := #[.pointer (some ⟨w.heap.size, 0, none⟩), .pointer (some ⟨w.heap.size + 2, 0, none⟩), .pointer (some ⟨w.heap.size + 3, 0, none⟩), .pointer (some ⟨w.heap.size + 1, 0, none⟩)]) (Q := fun w' => But (fun q => q = w.heap.size + 2 ∨ q = w.heap.size + 3 ∨ q = w.heap.size + 1) W0 w' ∧ ∃ g', SzI (w.heap.size + 2) (w.heap.size + 3) (w.heap.size + 1) (w.heap.size + 1) (szOf p k l) g' w') (hcf_size1 _) (fun w1 hb hlt => by
    refine (size1 (base := w.heap.size + 1) (bP := w.heap.size + 2) (bD := w.heap.size + 3) (bN := w.heap.size + 1) ((bo.keep B0).keep hb) hg t (X0.bel hb) (by omega) (by omega) (by omega) (by omega) (by omega) (by omega) (by omega) (by omega) (by omega) (fun q hq => by have := hnb q hq; omega) (by omega) ⟨rfl, X2.bel hb, X3.bel hb, X1.bel hb⟩ hn).mono ?_
    rintro e w' ⟨rfl, g', hv, hi⟩
    exact ⟨rfl, ⟨(But.bel hb).trans ⟨hv.fr.os, hv.fr.tape, hv.fr.output, hv.fr.size, fun q hq hp => hv.fr.block q hq (fun e => e.elim hp (fun e => by cases e))⟩, g', hi⟩, hv.fr.size, hv.fr.block _ hlt (fun e => e.elim (fun e => by omega) (fun e => by cases e))⟩))
  have HB0 := Lib.hid B0
  have HS := Lib.hid hs0
  have HW0 := Lib.hid hW0
  obtain ⟨nn, hnn⟩ : ∃ nn : Int, nn = ((szOf p k l).n : Int) := ⟨_, rfl⟩
  obtain ⟨np, hnp⟩ : ∃ nn : Int, nn = ((szOf p k l).p : Int) := ⟨_, rfl⟩
  obtain ⟨nq, hnq⟩ : ∃ nn : Int, nn = ((szOf p k l).q : Int) := ⟨_, rfl⟩
  rw [← hnn, ← hnp, ← hnq]
  have HNN := Lib.hid hnn; have HNP := Lib.hid hnp; have HNQ := Lib.hid hnq
  clear hnn hnp hnq
  clear bo hg t X0 X1 X2 X3 B0 hs0 hW0 hnb hB hn
  have hmf : ∀ (fn : Fn) (first cap : Array Value) (w : World), (Instr.makeFunc fn first cap).run Tryz.prog w = .ok (.func fn first cap) w := fun _ _ _ _ => rfl
  go_enter Tryz.func22, Tryz.ntmps22
  go_wp2_with fail
  rw [← HW0.out]
  refine C.out.mono ?_
  rintro e w5 ⟨rfl, w4, ⟨hbut, g', hi⟩, hO⟩
  have hss := HS.out
  have l1 := hi.n.lt; have l2 := hi.p.lt; have l3 := hi.q.lt
  have Z1 := Lib.hid (hi.n.of_block (hO.block _ (by omega)) (Nat.le_of_eq hO.size.symm))
  have Z2 := Lib.hid (hi.p.of_block (hO.block _ (by omega)) (Nat.le_of_eq hO.size.symm))
  have Z3 := Lib.hid (hi.q.of_block (hO.block _ (by omega)) (Nat.le_of_eq hO.size.symm))
  have B5 := Lib.hid (hO.bel (Below.butt HB0.out hbut (fun q h => by omega)) (by omega))
  clear hbut hO l1 l2 l3 hss hi
  go_wp2_with fail
  rename_i k3
  have HK3 := Lib.hid k3
  clear k3
  have hs := HB0.out.size
  rw [← HNN.out] at Z1; rw [← HNP.out] at Z2; rw [← HNQ.out] at Z3
  have hS0 : VN w5 (w.heap.size + 1) [.int .i64 nn] ∧ VN w5 (w.heap.size + 1 + 1) [.int .i64 np] ∧ VN w5 (w.heap.size + 1 + 1 + 1) [.int .i64 nq] ∧ Below w.heap.size w w5 := ⟨Z1.out, Z2.out, Z3.out, B5.out⟩
  clear Z1 Z2 Z3 B5 HNN HNP HNQ hs C HW0 HB0 HS
  refine wp_region_noPanic ?_
  refine wp_region_held_drew (S := fun X => VN X (w.heap.size + 1) [.int .i64 nn] ∧ VN X (w.heap.size + 1 + 1) [.int .i64 np] ∧ VN X (w.heap.size + 1 + 1 + 1) [.int .i64 nq] ∧ Below w.heap.size w X) (by kernel_rfl) (show VN w5.drew (w.heap.size + 1) [.int .i64 nn] ∧ VN w5.drew (w.heap.size + 1 + 1) [.int .i64 np] ∧ VN w5.drew (w.heap.size + 1 + 1 + 1) [.int .i64 nq] ∧ Below w.heap.size w w5.drew from ⟨hS0.1.drew, hS0.2.1.drew, hS0.2.2.1.drew, hS0.2.2.2.drew⟩) (fun hHeld => ?_)
  clear hS0
  generalize w5.drew = wd at *
  refine wpAnyH_take (i := 0) (v := ?_) rfl (by kernel_rfl) (by kernel_rfl) (by kernel_rfl) (fun _ _ _ h => h) (Or.inl ⟨by rfl, ?_⟩) (by assumption) ?_
  rotate_left 1
  · intro w' hSw; have r0 := hSw.1.c 0 _ rfl; (try dsimp only at hSw); go_simp; try (with_reducible rfl)
  try simp only [Act.put, List.getElem_toArray, List.getElem_cons_zero, List.getElem_cons_succ, List.setIfInBounds_toArray, List.set_cons_zero, List.set_cons_succ]
  refine wpAnyH_take (i := 1) (v := ?_) rfl (by kernel_rfl) (by kernel_rfl) (by kernel_rfl) (fun _ _ _ h => h) (Or.inl ⟨by rfl, ?_⟩) (by assumption) ?_
  rotate_left 1
  · intro w' hSw; have r0 := hSw.2.1.c 0 _ rfl; (try dsimp only at hSw); go_simp; try (with_reducible rfl)
  try simp only [Act.put, List.getElem_toArray, List.getElem_cons_zero, List.getElem_cons_succ, List.setIfInBounds_toArray, List.set_cons_zero, List.set_cons_succ]
  refine wpAnyH_take (i := 2) (v := ?_) rfl (by kernel_rfl) (by kernel_rfl) (by kernel_rfl) (fun _ _ _ h => h) (Or.inl ⟨by rfl, ?_⟩) (by assumption) ?_
  rotate_left 1
  · intro w' hSw; have r0 := hSw.2.2.1.c 0 _ rfl; (try dsimp only at hSw); go_simp; try (with_reducible rfl)
  try simp only [Act.put, List.getElem_toArray, List.getElem_cons_zero, List.getElem_cons_succ, List.setIfInBounds_toArray, List.set_cons_zero, List.set_cons_succ]
  refine wpAnyH_ready (rs := [3]) (by kernel_rfl) (by simp) ?_
  refine AllReadyH.cons rfl (fun K hK => ?_) AllReadyH.nil
  have hva := hHeld.1.c 0 _ rfl
  have hz := hHeld.1.z 0
  go_simp
  clear hva hz
  obtain ⟨x3, hx3⟩ : ∃ X, X = wd.setCell ⟨w.heap.size + 1, 0, none⟩ (.int .i64 nn) := ⟨_, rfl⟩
  have hS1 : VN x3 (w.heap.size + 1) [.int .i64 nn] ∧ VN x3 (w.heap.size + 1 + 1) [.int .i64 np] ∧ VN x3 (w.heap.size + 1 + 1 + 1) [.int .i64 nq] ∧ Below w.heap.size w x3 := by
    subst hx3
    refine ⟨?_, ?_, ?_, bel_set hHeld.2.2.2 (by omega) _⟩
    · first | exact hHeld.1.set 0 (by simp) _ | exact hHeld.1.other (p := ⟨w.heap.size + 1, 0, none⟩) (by show w.heap.size + 1 ≠ w.heap.size + 1; omega) _
    · first | exact hHeld.2.1.set 0 (by simp) _ | exact hHeld.2.1.other (p := ⟨w.heap.size + 1, 0, none⟩) (by show w.heap.size + 1 ≠ w.heap.size + 1 + 1; omega) _
    · first | exact hHeld.2.2.1.set 0 (by simp) _ | exact hHeld.2.2.1.other (p := ⟨w.heap.size + 1, 0, none⟩) (by show w.heap.size + 1 ≠ w.heap.size + 1 + 1 + 1; omega) _
  rw [← hx3]
  clear hHeld hx3
  refine hK.out _ _ hS1 (fun hHeld => ?_)
  clear hK K
  try simp only [Act.put, List.getElem_toArray, List.getElem_cons_zero, List.getElem_cons_succ, List.setIfInBounds_toArray, List.set_cons_zero, List.set_cons_succ]
  refine wpAnyH_ready (rs := [4]) (by kernel_rfl) (by simp) ?_
  refine AllReadyH.cons rfl (fun K hK => ?_) AllReadyH.nil
  have hva := hHeld.2.1.c 0 _ rfl
  have hz := hHeld.2.1.z 0
  go_simp
  clear hva hz
  obtain ⟨x4, hx4⟩ : ∃ X, X = x3.setCell ⟨w.heap.size + 1 + 1, 0, none⟩ (.int .i64 np) := ⟨_, rfl⟩
  have hS1 : VN x4 (w.heap.size + 1) [.int .i64 nn] ∧ VN x4 (w.heap.size + 1 + 1) [.int .i64 np] ∧ VN x4 (w.heap.size + 1 + 1 + 1) [.int .i64 nq] ∧ Below w.heap.size w x4 := by
    subst hx4
    refine ⟨?_, ?_, ?_, bel_set hHeld.2.2.2 (by omega) _⟩
    · first | exact hHeld.1.set 0 (by simp) _ | exact hHeld.1.other (p := ⟨w.heap.size + 1 + 1, 0, none⟩) (by show w.heap.size + 1 + 1 ≠ w.heap.size + 1; omega) _
    · first | exact hHeld.2.1.set 0 (by simp) _ | exact hHeld.2.1.other (p := ⟨w.heap.size + 1 + 1, 0, none⟩) (by show w.heap.size + 1 + 1 ≠ w.heap.size + 1 + 1; omega) _
    · first | exact hHeld.2.2.1.set 0 (by simp) _ | exact hHeld.2.2.1.other (p := ⟨w.heap.size + 1 + 1, 0, none⟩) (by show w.heap.size + 1 + 1 ≠ w.heap.size + 1 + 1 + 1; omega) _
  rw [← hx4]
  clear hHeld hx4
  refine hK.out _ _ hS1 (fun hHeld => ?_)
  clear hK K
  try simp only [Act.put, List.getElem_toArray, List.getElem_cons_zero, List.getElem_cons_succ, List.setIfInBounds_toArray, List.set_cons_zero, List.set_cons_succ]
  refine wpAnyH_ready (rs := [5]) (by kernel_rfl) (by simp) ?_
  refine AllReadyH.cons rfl (fun K hK => ?_) AllReadyH.nil
  have hva := hHeld.2.2.1.c 0 _ rfl
  have hz := hHeld.2.2.1.z 0
  go_simp
  clear hva hz
  obtain ⟨x5, hx5⟩ : ∃ X, X = x4.setCell ⟨w.heap.size + 1 + 1 + 1, 0, none⟩ (.int .i64 nq) := ⟨_, rfl⟩
  have hS1 : VN x5 (w.heap.size + 1) [.int .i64 nn] ∧ VN x5 (w.heap.size + 1 + 1) [.int .i64 np] ∧ VN x5 (w.heap.size + 1 + 1 + 1) [.int .i64 nq] ∧ Below w.heap.size w x5 := by
    subst hx5
    refine ⟨?_, ?_, ?_, bel_set hHeld.2.2.2 (by omega) _⟩
    · first | exact hHeld.1.set 0 (by simp) _ | exact hHeld.1.other (p := ⟨w.heap.size + 1 + 1 + 1, 0, none⟩) (by show w.heap.size + 1 + 1 + 1 ≠ w.heap.size + 1; omega) _
    · first | exact hHeld.2.1.set 0 (by simp) _ | exact hHeld.2.1.other (p := ⟨w.heap.size + 1 + 1 + 1, 0, none⟩) (by show w.heap.size + 1 + 1 + 1 ≠ w.heap.size + 1 + 1; omega) _
    · first | exact hHeld.2.2.1.set 0 (by simp) _ | exact hHeld.2.2.1.other (p := ⟨w.heap.size + 1 + 1 + 1, 0, none⟩) (by show w.heap.size + 1 + 1 + 1 ≠ w.heap.size + 1 + 1 + 1; omega) _
  rw [← hx5]
  clear hHeld hx5
  refine hK.out _ _ hS1 (fun hHeld => ?_)
  clear hK K
  try simp only [Act.put, List.getElem_toArray, List.getElem_cons_zero, List.getElem_cons_succ, List.setIfInBounds_toArray, List.set_cons_zero, List.set_cons_succ]
  refine wpAnyH_take (i := 6) (v := ?_) rfl (by kernel_rfl) (by kernel_rfl) (by kernel_rfl) (fun _ _ _ h => h) (Or.inl ⟨by rfl, ?_⟩) (by assumption) ?_
  rotate_left 1
  · intro w' hSw; (try dsimp only at hSw); go_simp; try (with_reducible rfl)
  try simp only [Act.put, List.getElem_toArray, List.getElem_cons_zero, List.getElem_cons_succ, List.setIfInBounds_toArray, List.set_cons_zero, List.set_cons_succ]
  refine wpAnyH_done (by kernel_rfl) ?_ _
  refine NoPanic.normal ?_
  try dsimp only [Exit.then]
  refine HK3.out _ _ ?_
  have b1 := hHeld.1.c 0 _ rfl
  have b2 := hHeld.2.1.c 0 _ rfl
  have b3 := hHeld.2.2.1.c 0 _ rfl
  have BB := Lib.hid hHeld.2.2.2
  clear HK3 hHeld
  go_wp2_with fail
  simp [bodyPost, results, Tryz.results22, go_sem, b1, b2, b3]
  exact BB.out
end
end Go.Proofs.YtcjokkjepgfinaaGreatDoor.Tr
