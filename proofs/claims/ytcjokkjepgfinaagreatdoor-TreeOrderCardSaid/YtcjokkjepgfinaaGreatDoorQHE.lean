import Derived.Test.YtcjokkjepgfinaaGreatDoorQHC
set_option linter.unusedVariables false
set_option linter.unusedSimpArgs false
namespace Go.Proofs.YtcjokkjepgfinaaGreatDoor.Tr
set_option maxRecDepth 8000
open Go.RowKit Mem Sk
open Dk (Fr)
def WRow (w : World) (F : Nat → Prop) (v : Value) (cs : List (List Value)) : Prop :=
  ∃ b o c, v = .slice (some ⟨b, o, none⟩) cs.length c ∧ cs.length ≤ c ∧ c ≤ maxLen ∧ b < w.heap.size ∧ ¬ F b ∧ (∀ j, w.frozen? ⟨b, j, none⟩ = false) ∧ ∀ i j x u, cs[i]? = some x → x[j]? = some u → w.cell? ⟨b, o + i * 6 + j, none⟩ = some u
theorem lows_its {k : Nat} (l : Its k) (key : By) : lows (its l) key = lows l key := by
  unfold lows
  induction l with
  | nil => rfl
  | cons x l ih =>
    rw [its_cons, List.takeWhile_cons, List.takeWhile_cons]
    show (if blt x.1 key = true then _ else _ : List It).length = _
    split <;> simp [ih]
theorem hasK_its {k : Nat} (l : Its k) (key : By) : hasK (its l) key = hasK l key := by
  unfold hasK
  rw [lows_its]
  unfold its
  rw [List.getElem?_map]
  cases l[lows l key]? <;> rfl
theorem toward_its {k : Nat} (l : Its k) (key : By) : toward (its l) key = toward l key := by unfold toward; rw [hasK_its, lows_its]
def Wy (w : World) (F : Nat → Prop) (N : Nat) (key : By) : (k : Nat) → (p : Nat) → (lo hi : By) → Its k → List (List Value) → Prop
  | 0, p, lo, hi, l, cs => ∃ fv tv iv, cs = [[.int .i64 (p : Int), .int .i64 0, fv, tv, iv, .int .i64 0]] ∧ RdF w F fv lo ∧ RdF w F tv hi ∧ KR0 w F N iv (its l)
  | k + 1, p, lo, hi, l, cs => ∃ fv tv iv x q rest, cs = [.int .i64 (p : Int), .int .i64 ((k : Int) + 1), fv, tv, iv, .int .i64 (toward (its l) key : Int)] :: rest ∧ RdF w F fv lo ∧ RdF w F tv hi ∧ KR0 w F N iv (its l) ∧
      l[toward (its l) key]? = some x ∧ pg x.2 = some q ∧ Wy w F N key k q x.1 (nxt hi (l.drop (toward (its l) key + 1))) (sub x.2) rest
section
variable {B : Nat} {W w w' : World} {sb db : Nat} {y y' : SLay} {s s' : Sto} {yd yd' : Dk.Lay} {d d' : Dk.Dsk} {m m' : Nat} {F G : Nat → Prop} {N : Nat} {v : Value} {key : By}
theorem KR0.kf' {l : List It} (h : KR0 w F N v l) (q : Kf F w w' G) : KR0 w' G N v l := h.kf q
theorem Wy.kf {k p : Nat} {lo hi : By} {l : Its k} {cs : List (List Value)} (h : Wy w F N key k p lo hi l cs) (q : Kf F w w' G) : Wy w' G N key k p lo hi l cs := by
  induction k generalizing p lo hi cs with
  | zero => obtain ⟨fv, tv, iv, e, h1, h2, h3⟩ := h; exact ⟨fv, tv, iv, e, h1.kf q, h2.kf q, h3.kf q⟩
  | succ k ih => obtain ⟨fv, tv, iv, x, r, rest, e, h1, h2, h3, h4, h5, h6⟩ := h; exact ⟨fv, tv, iv, x, r, rest, e, h1.kf q, h2.kf q, h3.kf q, h4, h5, ih h6⟩
theorem Wy.len {k p : Nat} {lo hi : By} {l : Its k} {cs : List (List Value)} (h : Wy w F N key k p lo hi l cs) : cs.length = k + 1 ∧ ∀ x ∈ cs, x.length = 6 := by
  induction k generalizing p lo hi cs with
  | zero => obtain ⟨fv, tv, iv, rfl, _⟩ := h; exact ⟨rfl, by simp⟩
  | succ k ih =>
    obtain ⟨fv, tv, iv, x, r, rest, rfl, h1, h2, h3, h4, h5, h6⟩ := h
    have := ih h6
    exact ⟨by simp [this.1], fun y hy => by
      rcases List.mem_cons.1 hy with rfl | hy
      · rfl
      · exact this.2 y hy⟩
theorem Wy.last {k p : Nat} {lo hi : By} {l : Its k} {cs : List (List Value)} (h : Wy w F N key k p lo hi l cs) : ∃ q fv tv iv, cs[k]? = some [.int .i64 (q : Int), .int .i64 0, fv, tv, iv, .int .i64 0] ∧ KR0 w F N iv (its (leafOf key k l)) := by
  induction k generalizing p lo hi cs with
  | zero => obtain ⟨fv, tv, iv, rfl, _, _, h⟩ := h; exact ⟨p, fv, tv, iv, rfl, h⟩
  | succ k ih =>
    obtain ⟨fv, tv, iv, x, r, rest, rfl, h1, h2, h3, h4, h5, h6⟩ := h
    obtain ⟨q, fv', tv', iv', g1, g2⟩ := ih h6
    exact ⟨q, fv', tv', iv', by simpa using g1, by rw [leafOf_succ, kidAt_of (toward_its l key ▸ h4)]; exact g2⟩
set_option maxHeartbeats 4000000 in
theorem leaf_any {b o n c : Nat} {p k : Int} {A2 A3 A4 : Option Addr} {n2 n3 n4 c2 c3 c4 : Nat} (hn : n ≤ 1000) (h0 : w.cell? ⟨b, o + n * 6, none⟩ = some (.int .i64 p)) (h1 : w.cell? ⟨b, o + n * 6 + 1, none⟩ = some (.int .i64 k)) (h2 : w.cell? ⟨b, o + n * 6 + 2, none⟩ = some (.slice A2 n2 c2)) (h3 : w.cell? ⟨b, o + n * 6 + 3, none⟩ = some (.slice A3 n3 c3)) (h4 : w.cell? ⟨b, o + n * 6 + 4, none⟩ = some (.slice A4 n4 c4)) :
    Calls Tryz.prog 32 #[.slice (some ⟨b, o, none⟩) (n + 1) c] w fun e w' => e = .returned (.agg #[(.int .i64 p), (.int .i64 k), (.slice A2 n2 c2), (.slice A3 n3 c3), (.slice A4 n4 c4)]) ∧ Below w.heap.size w w' := by
  obtain ⟨W0, hW0⟩ : ∃ X, X = w.alloc (.cells #[.int .i64 0, .int .i64 0, .slice none 0 0, .slice none 0 0, .slice none 0 0] 75) := ⟨_, rfl⟩
  have B0 := Lib.hid (show Below w.heap.size w W0 from hW0 ▸ box1 w _)
  have R0 := Lib.hid (show VN W0 w.heap.size [.int .i64 0, .int .i64 0, .slice none 0 0, .slice none 0 0, .slice none 0 0] from hW0 ▸ VN.new w _ _)
  have g0 := cell_bel B0.out h0
  have g1 := cell_bel B0.out h1
  have g2 := cell_bel B0.out h2
  have g3 := cell_bel B0.out h3
  have g4 := cell_bel B0.out h4
  have i1 : ((n : Int) + 1 - 1) = (n : Int) := by omega
  have i2 : IntKind.i64.wrap (n : Int) = (n : Int) := by rw [IntKind.wrap_i64]; omega
  have i3 : (0 : Int) ≤ (n : Int) := by omega
  have i4 : (n : Int) < (n : Int) + 1 := by omega
  have i5 : (n : Int).toNat = n := by omega
  have HW0 := Lib.hid hW0
  rw [hW0] at g0 g1 g2 g3 g4
  clear hW0
  clear h0 h1 h2 h3 h4
  go_enter Tryz.func32, Tryz.ntmps32
  go_wp2
  refine bodyPost_ret (results_c rfl w.heap.size [.int .i64 p, .int .i64 k, .slice A2 n2 c2, .slice A3 n3 c3, .slice A4 n4 c4] _ rfl (VN.new w #[.int .i64 p, .int .i64 k, .slice A2 n2 c2, .slice A3 n3 c3, .slice A4 n4 c4] 75).range Tryz.underlying75 rfl info_node) rfl ?_
  exact ⟨rfl, box1 w _⟩
end
section
variable {B : Nat} {W w w' : World} {sb db : Nat} {y y' : SLay} {s s' : Sto} {yd yd' : Dk.Lay} {d d' : Dk.Dsk} {m m' : Nat} {F G : Nat → Prop} {N : Nat} {v : Value} {key : By}
def Pgs (s : Sto) (d : Dk.Dsk) : (k : Nat) → Its k → Prop
  | 0, _ => True
  | k + 1, l => ∀ (x : By × T k), x ∈ l → (∃ p, pg x.2 = some p ∧ p < 65536 ∧ p ≠ 0 ∧ PageOk s d p (told k (sub x.2))) ∧ Pgs s d k (sub x.2)
theorem nxt_its {k : Nat} (hi : By) (l : Its k) : nxt hi (its l) = nxt hi l := by cases l <;> rfl
theorem its_at {k : Nat} {l : Its k} {i : Nat} {x : By × Kid k} (h : l[i]? = some x) : (its l)[i]? = some (it x) := by unfold its; rw [List.getElem?_map, h]; rfl
theorem toward_pos {k : Nat} {lo hi : By} {l : Its (k + 1)} (h : Right (k + 1) lo hi l) (hk : inS lo hi key = true) : hasK (its l) key = true ∨ 0 < lows (its l) key := by
  rw [hasK_its, lows_its]
  obtain ⟨_, h0⟩ := h.two (by omega)
  cases l with
  | nil => exact absurd rfl h.ne
  | cons x l =>
    have e := h0 x rfl
    by_cases hb : blt x.1 key = true
    · right
      unfold lows
      rw [List.takeWhile_cons, if_pos hb]
      simp
    · left
      have hl : lows (x :: l) key = 0 := by unfold lows; rw [List.takeWhile_cons, if_neg hb]; rfl
      have h1 := (inS_iff.1 hk).1
      rw [← e] at h1
      have : x.1 = key := ((blt_tri x.1 key).resolve_left (by simpa using hb)).resolve_right (by rw [h1]; simp)
      unfold hasK
      rw [hl]
      simp [this]
theorem rdf_out {l : By} (h : RdF w F v l) : RdF w (fun q => F q ∨ w.heap.size ≤ q) v l := by
  obtain ⟨A, c, e, h1, h2, h3, h4⟩ := h
  exact ⟨A, c, e, h1, h2, h3, fun hn => by
    obtain ⟨b, o, e2, hb, hf, hc⟩ := h4 hn
    exact ⟨b, o, e2, hb, fun hq => hq.elim (fun h => hf h) (fun h => by omega), hc⟩⟩
theorem KR0.outer {l : List It} (h : KR0 w F N v l) : KR0 w (fun q => F q ∨ w.heap.size ≤ q) N v l := by
  obtain ⟨A, c, e, h1, h2, h3, h4⟩ := h
  exact ⟨A, c, e, h1, h2, h3, fun hn => by
    obtain ⟨b, o, e2, hb', hf, hN, hz, hc⟩ := h4 hn
    exact ⟨b, o, e2, hb', fun hq => hq.elim (fun h => hf h) (fun h => by omega), hN, hz, fun i hi => by
      obtain ⟨kv, rv, mv, c1, c2, c3, x, hx, r1, r2, r3⟩ := hc i hi
      exact ⟨kv, rv, mv, c1, c2, c3, x, hx, rdf_out r1, rdf_out r2, r3⟩⟩⟩
theorem KR0.mono {l : List It} (h : KR0 w F N v l) (hG : ∀ b, G b → F b) : KR0 w G N v l :=
  Slots.mono h hG fun i kv rv mv _ ⟨y, h7, h8, h9, h10⟩ => ⟨y, h7, h8.mono hG, h9.mono hG, h10⟩
def outW (w0 : World) (kn : Nat) (vv : Value) (q : Nat) : Prop := q < w0.heap.size ∨ q = kn ∨ vv.ownBlock = some q
structure Dn (w0 wr : World) (key : By) (kn k p : Nat) (l : Its k) (kc pc : Nat) (lo hi : By) (lc : Its kc) (ps : List (List Value)) (vv fv tv iv : Value) : Prop where
  vn : VN wr kn [.int .i64 (pc : Int), .int .i64 (kc : Int), fv, tv, iv]
  rl : RdF wr (outW w0 kn vv) fv lo
  rh : RdF wr (outW w0 kn vv) tv hi
  kr : KR0 wr (outW w0 kn vv) w0.heap.size iv (its lc)
  bel : Below w0.heap.size w0 wr
  low : w0.heap.size ≤ kn
  own : wr.ownsRow (kn + 1) 112 6 vv ps.length ps.flatten
  six : ∀ x ∈ ps, x.length = 6
  wy : ∀ (X : World) (G : Nat → Prop) (rest : List (List Value)), Kf (outW w0 kn vv) wr X G → Wy X G w0.heap.size key kc pc lo hi lc rest → Wy X G w0.heap.size key k p [] [] l (ps ++ rest)
  lev : kc + ps.length = k
theorem Dn.first {w0 w1 : World} {k p : Nat} {l : Its k} {A : Option Addr} {n c : Nat} (hkr : KR0 w1 (fun q => q < w0.heap.size) w0.heap.size (.slice A n c) (its l)) (hb : Below w0.heap.size w0 w1) :
    Dn w0 (w1.alloc (.cells #[.int .i64 (p : Int), .int .i64 (k : Int), .slice none 0 0, .slice none 0 0, .slice A n c] 75)) key w1.heap.size k p l k p [] [] l [] (.slice none 0 0) (.slice none 0 0) (.slice none 0 0) (.slice A n c) where
  vn := VN.new w1 _ _
  rl := RdF.nil _ _
  rh := RdF.nil _ _
  kr := (hkr.outer.mono (G := outW w0 w1.heap.size (.slice none 0 0)) (fun b h => by
    rcases h with h | h | h
    · exact .inl h
    · exact .inr (Nat.le_of_eq h.symm)
    · simp [Value.ownBlock] at h)).kf (kfb (box1 w1 _))
  bel := hb.trans ((box1 w1 _).mono hb.size)
  low := hb.size
  own := World.ownsRow_nil _ _ _ _
  six := fun x hx => by cases hx
  wy := fun X G rest _ h => h
  lev := rfl
theorem Dn.step {w0 wr wz : World} {kn k p : Nat} {l : Its k} {kc pc : Nat} {lo hi : By} {lc : Its (kc + 1)} {ps : List (List Value)} {vv fv tv iv : Value} (D : Dn w0 wr key kn k p l (kc + 1) pc lo hi lc ps vv fv tv iv)
    {x : By × T kc} {q : Nat} {vv' fv' tv' iv' : Value} (hx : lc[toward (its lc) key]? = some x) (hq : pg x.2 = some q) (hkf : Kf (outW w0 kn vv) wr wz (outW w0 kn vv'))
    (hvn : VN wz kn [.int .i64 (q : Int), .int .i64 (kc : Int), fv', tv', iv']) (h1 : RdF wz (outW w0 kn vv') fv' x.1) (h2 : RdF wz (outW w0 kn vv') tv' (nxt hi (lc.drop (toward (its lc) key + 1)))) (h3 : KR0 wz (outW w0 kn vv') w0.heap.size iv' (its (sub x.2)))
    (hb : Below w0.heap.size w0 wz) (ho : wz.ownsRow (kn + 1) 112 6 vv' (ps.length + 1) (ps.flatten ++ [.int .i64 (pc : Int), .int .i64 ((kc : Int) + 1), fv, tv, iv, .int .i64 (toward (its lc) key : Int)])) :
    Dn w0 wz key kn k p l kc q x.1 (nxt hi (lc.drop (toward (its lc) key + 1))) (sub x.2) (ps ++ [[.int .i64 (pc : Int), .int .i64 ((kc : Int) + 1), fv, tv, iv, .int .i64 (toward (its lc) key : Int)]]) vv' fv' tv' iv' where
  vn := hvn
  rl := h1
  rh := h2
  kr := h3
  bel := hb
  low := D.low
  own := by rw [List.length_append, List.flatten_append]; simpa using ho
  six := fun y hy => by
    rcases List.mem_append.1 hy with hy | hy
    · exact D.six y hy
    · simp at hy; subst hy; rfl
  wy := fun X G rest hk hw => by
    rw [List.append_assoc]
    exact D.wy X G _ (hkf.trans hk) ⟨fv, tv, iv, x, q, rest, rfl, D.rl.kf (hkf.trans hk), D.rh.kf (hkf.trans hk), D.kr.kf (hkf.trans hk), hx, hq, hw⟩
  lev := by have := D.lev; rw [List.length_append]; simp; omega
theorem step_info : (Tryz.prog.info? 112).map (fun i => (i.zero, i.size, i.bytes)) = some (some (.agg #[.int .i64 0, .int .i64 0, .slice none 0 0, .slice none 0 0, .slice none 0 0, .int .i64 0]), 6, 96) := by kernel_rfl
theorem put6 {kn base e size n : Nat} {iv : Value} {ns cs : List Value} {ty : TypeId} (Nn : VN w kn ns) (hO : w.ownsRow base e size iv n cs) (xs : Array Value) :
    (w.alloc (.cells xs ty)).ownsRow base e size iv n cs ∧ (∀ i u, xs.toList[i]? = some u → (w.alloc (.cells xs ty)).cell? ((⟨w.heap.size, 0, none⟩ : Addr).add i) = some u) ∧ VN (w.alloc (.cells xs ty)) kn ns := by
  refine ⟨Dk.owns_of_block hO fun k hk => Below.heap_alloc _ _ _ (World.ownsRow.lt hO k hk).2, fun i u hu => ?_, Nn.alloc _⟩
  rw [show (⟨w.heap.size, 0, none⟩ : Addr).add i = ⟨w.heap.size, i, none⟩ by unfold Addr.add; split <;> simp_all]
  rw [cell_of_row _ _ _ _ _ _ (heap_alloc_new w _)]
  simpa using hu
theorem kf_round {w0 wr w2 w3 w4 wz : World} {kn : Nat} {vv vv' : Value} {o : Obj} (h1 : Below wr.heap.size wr w2) (h2 : (w2.alloc o).grownBy w3 vv.ownBlock) (h3 : vv'.ownBlock = vv.ownBlock ∨ vv'.ownBlock = some (w2.alloc o).heap.size) (h4 : Below w3.heap.size w3 w4) (h5 : Only kn w4 wz) :
    Kf (outW w0 kn vv) wr wz (outW w0 kn vv') := by
  have s1 := h1.size
  have s2 := h2.size
  have s3 := h4.size
  have s4 := h5.size
  have sa : (w2.alloc o).heap.size = w2.heap.size + 1 := by simp
  refine ⟨⟨h5.os.trans (h4.os.trans (h2.os.trans h1.os)), h5.tape.trans (h4.tape.trans (h2.tape.trans h1.tape)), h5.output.trans (h4.output.trans (h2.output.trans h1.output)), by omega, fun q hq hf => ?_⟩, fun q hq h => ?_⟩
  · have n1 : q ≠ kn := fun e => hf (.inr (.inl e))
    have n2 : vv.ownBlock ≠ some q := fun e => hf (.inr (.inr e))
    rw [h5.block q n1, h4.block q (by omega), h2.block q (by omega) (fun e => n2 e.symm), Below.heap_alloc _ _ _ (by omega), h1.block q hq]
  · rcases h with h | h | h
    · exact .inl h
    · exact .inr (.inl h)
    · rcases h3 with e | e
      · exact .inr (.inr (e ▸ h))
      · rw [e] at h; injection h with h; omega
theorem kf_tail {w0 w3 w4 wz : World} {kn : Nat} {vv : Value} (h4 : Below w3.heap.size w3 w4) (h5 : Only kn w4 wz) : Kf (outW w0 kn vv) w3 wz (outW w0 kn vv) := by
  have s3 := h4.size
  have s4 := h5.size
  exact Kf.same ⟨h5.os.trans h4.os, h5.tape.trans h4.tape, h5.output.trans h4.output, by omega, fun q hq hf => (h5.block q (fun e => hf (.inr (.inl e)))).trans (h4.block q hq)⟩
theorem flat6 (cs : List (List Value)) (h : ∀ x ∈ cs, x.length = 6) (i j : Nat) (x : List Value) (u : Value) (hx : cs[i]? = some x) (hu : x[j]? = some u) : cs.flatten[i * 6 + j]? = some u := by
  induction cs generalizing i with
  | nil => simp at hx
  | cons y cs ih =>
    have h6 := h y (by simp)
    rw [List.flatten_cons]
    cases i with
    | zero =>
      simp at hx
      subst hx
      have : j < y.length := (List.getElem?_eq_some_iff.1 hu).1
      rw [List.getElem?_append_left (by omega)]
      simpa using hu
    | succ i =>
      rw [List.getElem?_append_right (by omega), h6, show (i + 1) * 6 + j - 6 = i * 6 + j by omega]
      exact ih (fun x hx => h x (by simp [hx])) i (by simpa using hx)
theorem WRow.own {base : Nat} {cs : List (List Value)} (ho : w.ownsRow base 112 6 v cs.length cs.flatten) (h6 : ∀ x ∈ cs, x.length = 6) (hne : 0 < cs.length) (hF : ∀ q, F q → q < base) : WRow w F v cs := by
  have hlt := World.ownsRow.lt ho
  have hcells := fun g hg => World.ownsRow.cells (g := g) ho hg
  rcases ho.2 with ⟨rfl, h0⟩ | ⟨g, cap, cur, rfl, hb, hh, hnc, hcm, _, _⟩
  · omega
  · refine ⟨g, 0, cap, rfl, hnc, hcm, (hlt g rfl).2, fun hf => by have := hF g hf; omega, fun j => by simp [World.frozen?, hh], fun i j x u hx hu => ?_⟩
    have := hcells g rfl (i * 6 + j) u (flat6 cs h6 i j x u hx hu)
    rw [show (⟨g, 0, none⟩ : Addr).add (i * 6 + j) = ⟨g, i * 6 + j, none⟩ by unfold Addr.add; split <;> simp_all] at this
    rw [Nat.zero_add]; exact this
theorem ord_its {k : Nat} {l : Its k} (h : Ord l) : Ord (its l) := by unfold its; exact List.pairwise_map.2 h
theorem below_at (bo : Bo B W w sb db y yd s d m) {k i q : Nat} {lc : Its (k + 1)} {x : By × T k} (hx : lc[i]? = some x) (hq : pg x.2 = some q) (hq65 : q < 65536) (hpo : PageOk s d q (told k (sub x.2))) (hk : k + 1 < 256) {mm : Nat} {hi : By} (hok : Ok k mm x.1 (nxt hi (lc.drop (i + 1))) (sub x.2)) (hs : nsz lc ≤ 4011)
    (q0 : Int) {A1 A2 : Option Addr} {n1 c1 c2 : Nat} (h : KR w F N v (its lc)) (h2 : RdF w F (.slice A2 hi.length c2) hi) :
    Calls Tryz.prog 59 #[pt sb, .agg #[.int .i64 q0, .int .i64 ((k : Int) + 1), .slice A1 n1 c1, .slice A2 hi.length c2, v], .int .i64 (i : Int)] w fun e w' =>
      ∃ Ak ck At ct A4 c4, e = .returned (.agg #[.int .i64 (q : Int), .int .i64 (k : Int), .slice Ak x.1.length ck, .slice At (nxt hi (lc.drop (i + 1))).length ct, .slice A4 (its (sub x.2)).length c4]) ∧ RdF w F (.slice Ak x.1.length ck) x.1 ∧ RdF w F (.slice At (nxt hi (lc.drop (i + 1))).length ct) (nxt hi (lc.drop (i + 1))) ∧ KR0 w' (fun q => q < w.heap.size) w.heap.size (.slice A4 (its (sub x.2)).length c4) (its (sub x.2)) ∧ Below w.heap.size w w' := by
  have hxi := its_at hx
  obtain ⟨hlt, he⟩ := List.getElem?_eq_some_iff.1 hxi
  have hd : nxt hi ((its lc).drop (i + 1)) = nxt hi (lc.drop (i + 1)) := by rw [← its_drop, nxt_its]
  have hsum : isum (its lc) ≤ 1000000000 := by unfold nsz at hs; omega
  have hrest : (its lc)[i].2 = be2 q := by rw [he]; show dig (pg x.2) = _; rw [hq]; rfl
  have hr := hok.here
  have e1 : (its lc)[i].1 = x.1 := by rw [he]; rfl
  have C := below_any bo q0 (k1 := (k : Int) + 1) rfl (A1 := A1) (n1 := n1) (c1 := c1) h h2 hsum hlt hrest hq65 hpo hk (l' := sub x.2) (by rw [hd, e1]; exact hr.1) hr.2.2
  rw [hd, e1] at C
  refine C.mono ?_
  rintro e w' ⟨Ak, ck, At, ct, nt, v', rfl, g1, g2, g3, g4⟩
  have hnt : nt = (nxt hi (lc.drop (i + 1))).length := by obtain ⟨_, _, e, _⟩ := g2; injection e
  subst hnt
  obtain ⟨A4, c4, rfl, -, -⟩ := g3.kr.form
  exact ⟨Ak, ck, At, ct, A4, c4, rfl, g1, g2, g3, g4⟩
set_option maxHeartbeats 16000000 in
theorem down_any {A3 : Option Addr} {c3 : Nat} {k p : Nat} {l : Its k} (bo : Bo B W w sb db y yd s d m)
    (ht : ∀ W', Below w.heap.size w W' → Calls Tryz.prog 41 #[pt sb] W' fun e w' => ∃ v, e = .returned (.agg #[.int .i64 (p : Int), .int .i64 (k : Int), .slice none 0 0, .slice none 0 0, v]) ∧ KR0 w' (fun q => q < W'.heap.size) W'.heap.size v (its l) ∧ Below W'.heap.size W' w')
    (hk : k < 256) (hok : (k = 0 ∧ l = []) ∨ Ok k 0 [] [] l) (hpg : Pgs s d k l) (h3 : RdF w (fun _ => False) (.slice A3 key.length c3) key) :
    Calls Tryz.prog 31 #[pt sb, .slice A3 key.length c3] w fun e w' =>
      ∃ v cs, e = .returned v ∧ WRow w' (fun q => q < w.heap.size) v cs ∧ Wy w' (fun q => q < w.heap.size) w.heap.size key k p [] [] l cs ∧ Below w.heap.size w w' := by
  have HT := Lib.hid ht
  have BO := Lib.hid bo
  have HK := Lib.hid hk
  have HOK := Lib.hid hok
  have HPG := Lib.hid hpg
  have H3 := Lib.hid h3
  clear ht bo hk hok hpg h3
  go_enter Tryz.func31, Tryz.ntmps31
  go_wp2_with (go_at_call 41; refine (HT.out _ (Below.refl _ _)).mono ?_; rintro e w1 ⟨v1, rfl, h1, h2⟩; obtain ⟨A4, c4, rfl, -, -⟩ := h1.kr.form; have K1 := Lib.hid h1; have B1 := Lib.hid h2; clear h1 h2)
  have D0 := Lib.hid (Dn.first (key := key) (p := p) K1.out B1.out)
  obtain ⟨W1, hW1⟩ : ∃ X, X = w1.alloc (.cells #[.int .i64 (p : Int), .int .i64 (k : Int), .slice none 0 0, .slice none 0 0, .slice A4 (its l).length c4] 75) := ⟨_, rfl⟩
  rw [← hW1] at D0 ⊢
  clear hW1 K1 B1
  obtain ⟨kn, hkn⟩ : ∃ kn, kn = w1.heap.size := ⟨_, rfl⟩
  rw [← hkn] at D0 ⊢
  clear hkn
  go_loopw [6] (fun v wr => ∃ (kc pc : Nat) (lo hi : By) (lc : Its kc) (ps : List (List Value)) (Av : Option Addr) (cv : Nat) (A1 A2 A4 : Option Addr) (c1 c2 c4 : Nat), v = .slice Av ps.length cv ∧ Hid (Dn w wr key kn k p l kc pc lo hi lc ps (.slice Av ps.length cv) (.slice A1 lo.length c1) (.slice A2 hi.length c2) (.slice A4 (its lc).length c4) ∧ ((kc = 0 ∧ lc = []) ∨ ∃ mm, Ok kc mm lo hi lc) ∧ inS lo hi key = true ∧ Pgs s d kc lc)) (fun v _ => k - lenV v)
  case atStart => exact ⟨k, p, [], [], l, [], none, 0, none, none, A4, 0, 0, c4, rfl, Lib.hid ⟨D0.out, HOK.out.imp_right (fun h => ⟨0, h⟩), inS_all key, HPG.out⟩⟩
  case round =>
    obtain ⟨kc, pc, lo, hi, lc, ps, Av, cv, A1, A2, A4, c1, c2, c4, rfl, I⟩ := hrel
    obtain ⟨D0, hO, hin, hP⟩ := I.out
    have hlv := D0.lev
    cases kc with
    | zero =>
      have D := Lib.hid D0
      have a0 := D.out.vn.c 0 _ rfl
      have a1 : wr.cell? ⟨kn, 1, none⟩ = some (.int .i64 0) := D.out.vn.c 1 _ rfl
      have a2 := D.out.vn.c 2 _ rfl
      have a3 := D.out.vn.c 3 _ rfl
      have a4 := D.out.vn.c 4 _ rfl
      have P6 := Lib.hid (put6 (ty := 112) D.out.vn D.out.own #[.int .i64 (pc : Int), .int .i64 0, .slice A1 lo.length c1, .slice A2 hi.length c2, .slice A4 (its lc).length c4, .int .i64 0])
      have HX := Lib.hid (show ∀ u ∈ [Value.int .i64 (pc : Int), .int .i64 0, .slice A1 lo.length c1, .slice A2 hi.length c2, .slice A4 (its lc).length c4, .int .i64 0], u.oneCell' = true from fun u hu => by simp at hu; rcases hu with rfl | rfl | rfl | rfl | rfl | rfl <;> rfl)
      have HL := Lib.hid (show ps.length ≤ 256 by have := HK.out; omega)
      clear D0 hO hin hP hlv I
      go_wp2_with (at_builtin; refine wpList_append_row Tryz.underlying68 step_info rfl (by omega) rfl _ _ rfl (kn + 1) _ _ _ rfl P6.out.1 _ 1 _ [.int .i64 (pc : Int), .int .i64 0, .slice A1 lo.length c1, .slice A2 hi.length c2, .slice A4 (its lc).length c4, .int .i64 0] rfl rfl P6.out.2.1 HX.out (by have := HL.out; unfold maxLen; omega) (by have := HL.out; omega) P6.out.2.2.lt ?_; intro v' w3 r1 r2 r3; obtain ⟨A5, c5, rfl⟩ := own_len' r1; have RR1 := Lib.hid r1; have RR2 := Lib.hid r2; have RR3 := Lib.hid r3; clear r1 r2 r3)
      go_ret
      have KF := kf_round (w0 := w) (kn := kn) (Below.refl _ wr) RR2.out RR3.out (Below.refl _ _) (Only.refl kn w3)
      have KG : Kf (outW w kn (.slice Av ps.length cv)) wr w3 (fun q => q < w.heap.size) := ⟨KF.fr, fun q _ h => .inl h⟩
      refine ⟨_, rfl, ps ++ [[.int .i64 (pc : Int), .int .i64 0, .slice A1 lo.length c1, .slice A2 hi.length c2, .slice A4 (its lc).length c4, .int .i64 0]], ?_, ?_, ?_⟩
      · refine WRow.own (base := kn + 1) (by rw [List.length_append, List.flatten_append]; simpa using RR1.out) (fun y hy => ?_) (by simp) (fun q h => by have := D.out.low; have h : q < w.heap.size := h; omega)
        rcases List.mem_append.1 hy with hy | hy
        · exact D.out.six y hy
        · simp at hy; subst hy; rfl
      · exact D.out.wy _ _ _ KG ⟨_, _, _, rfl, D.out.rl.kf KG, D.out.rh.kf KG, D.out.kr.kf KG⟩
      · exact bel_grown (D.out.bel.alloc D.out.bel.size _) (by have := D.out.bel.size; simp; omega) RR2.out (fun g hg => by have := (World.ownsRow.lt D.out.own g hg).1; have := D.out.low; omega)
    | succ k' =>
      obtain ⟨mm, hok⟩ := hO.resolve_left (by omega)
      obtain ⟨x, hx, hkx, hkid⟩ := ok_step hok hin
      rw [← toward_its lc key] at hx hkx hkid
      obtain ⟨⟨q, hq, hq65, hq0, hpo⟩, hPk⟩ := hP x (List.mem_of_getElem? hx)
      have hr := hok.here
      have D := Lib.hid D0
      have NV := Lib.hid (show VN wr kn [.int .i64 (pc : Int), .int .i64 ((k' : Int) + 1), .slice A1 lo.length c1, .slice A2 hi.length c2, .slice A4 (its lc).length c4] from D0.vn)
      have TW := Lib.hid (fun X (hb : Below wr.heap.size wr X) => toward_any (key := key) (pc : Int) ((k' : Int) + 1) A1 A2 lo.length hi.length c1 c2 (D0.kr.kr.kf (kfb hb)) (ord_its hr.1.ord) (by have := hr.2.2; unfold nsz at this; omega) ((H3.out.bel (D0.bel.trans (hb.mono D0.bel.size))).rdd) (toward_pos hr.1 hin))
      have BL := Lib.hid (fun X (hb : Below w.heap.size w X) (F : Nat → Prop) (h1 : KR X F w.heap.size (.slice A4 (its lc).length c4) (its lc)) (h2 : RdF X F (.slice A2 hi.length c2) hi) => below_at (BO.out.keep hb) hx hq hq65 hpo (by have := HK.out; omega) hkid hr.2.2 (pc : Int) (A1 := A1) (n1 := lo.length) (c1 := c1) h1 h2)
      have HXX := Lib.hid (And.intro hx (And.intro hq (And.intro hkx (And.intro hkid hPk))))
      have HX := Lib.hid (show ∀ u ∈ [Value.int .i64 (pc : Int), .int .i64 ((k' : Int) + 1), .slice A1 lo.length c1, .slice A2 hi.length c2, .slice A4 (its lc).length c4, .int .i64 (toward (its lc) key : Int)], u.oneCell' = true from fun u hu => by simp at hu; rcases hu with rfl | rfl | rfl | rfl | rfl | rfl <;> rfl)
      have HL := Lib.hid (show ps.length ≤ 256 by have := HK.out; omega)
      have HLV := Lib.hid hlv
      have a0 := NV.out.c 0 _ rfl
      have a1 := NV.out.c 1 _ rfl
      have a2 := NV.out.c 2 _ rfl
      have a3 := NV.out.c 3 _ rfl
      have a4 := NV.out.c 4 _ rfl
      have hpos : (0 : Int) < (k' : Int) + 1 := by omega
      clear hx hq hq65 hpo hkid hr hok hkx hPk D0 hO hin hP hlv I
      have t1 := trivial
      go_wp2_with (first
        | (go_at_call 58; clear t1; refine (TW.out _ (Below.refl _ _)).mono ?_; rintro e w2 ⟨rfl, hb⟩; clear a0 a1 a2 a3 a4; have B2 := Lib.hid hb; have N2 := Lib.hid (NV.out.bel hb); have P6 := Lib.hid (put6 (ty := 112) N2.out (Dk.owns_of_block D.out.own fun g hg => hb.block g (World.ownsRow.lt D.out.own g hg).2) #[.int .i64 (pc : Int), .int .i64 ((k' : Int) + 1), .slice A1 lo.length c1, .slice A2 hi.length c2, .slice A4 (its lc).length c4, .int .i64 (toward (its lc) key : Int)]); have a0 := N2.out.c 0 _ rfl; have a1 := N2.out.c 1 _ rfl; have a2 := N2.out.c 2 _ rfl; have a3 := N2.out.c 3 _ rfl; have a4 := N2.out.c 4 _ rfl; clear hb; have t2 := trivial)
        | (at_builtin; clear t2; refine wpList_append_row Tryz.underlying68 step_info rfl (by omega) rfl _ _ rfl (kn + 1) _ _ _ rfl P6.out.1 _ 1 _ [.int .i64 (pc : Int), .int .i64 ((k' : Int) + 1), .slice A1 lo.length c1, .slice A2 hi.length c2, .slice A4 (its lc).length c4, .int .i64 (toward (its lc) key : Int)] rfl rfl P6.out.2.1 HX.out (by have := HL.out; unfold maxLen; omega) (by have := HL.out; omega) P6.out.2.2.lt ?_; intro v' w3 r1 r2 r3; obtain ⟨A5, c5, rfl⟩ := own_len' r1; clear a0 a1 a2 a3 a4; have N3 := Lib.hid (P6.out.2.2.grown r2 (fun e => by have := (World.ownsRow.lt D.out.own _ e).1; omega)); have a0 := N3.out.c 0 _ rfl; have a1 := N3.out.c 1 _ rfl; have a2 := N3.out.c 2 _ rfl; have a3 := N3.out.c 3 _ rfl; have a4 := N3.out.c 4 _ rfl; have RR1 := Lib.hid r1; have RR2 := Lib.hid r2; have RR3 := Lib.hid r3; have KF3 := Lib.hid (kf_round (w0 := w) (kn := kn) B2.out r2 r3 (Below.refl _ _) (Only.refl kn w3)); have B3 := Lib.hid (bel_grown ((D.out.bel.trans (B2.out.mono D.out.bel.size)).alloc (by have := D.out.bel.size; have := B2.out.size; omega) _) (by have := D.out.bel.size; have := B2.out.size; simp; omega) r2 (fun g hg => by have := (World.ownsRow.lt D.out.own g hg).1; have := D.out.low; omega)); clear r1 r2 r3; have t3 := trivial)
        | (go_at_call 59; clear t3; refine (BL.out _ B3.out _ (D.out.kr.kr.kf KF3.out) (D.out.rh.kf KF3.out)).mono ?_; rintro e w4 ⟨Ak, ck, At, ct, A6, c6, rfl, g1, g2, g3, g4⟩; clear a0 a1 a2 a3 a4; have N4 := Lib.hid (N3.out.bel g4); have G1 := Lib.hid g1; have G2 := Lib.hid g2; have G3 := Lib.hid g3; have G4 := Lib.hid g4; have a0 := N4.out.c 0 _ rfl; have a1 := N4.out.c 1 _ rfl; have a2 := N4.out.c 2 _ rfl; have a3 := N4.out.c 3 _ rfl; have a4 := N4.out.c 4 _ rfl; have z0 := N4.out.z 0; have z1 := N4.out.z 1; have z2 := N4.out.z 2; have z3 := N4.out.z 3; have z4 := N4.out.z 4; clear g1 g2 g3 g4))
      go_roundw
      case rel =>
        obtain ⟨hx, hq, hkx, hkid, hPk⟩ := HXX.out
        have hO5 := Only.set5 kn w4 (.int .i64 (q : Int)) (.int .i64 (k' : Int)) (.slice Ak x.1.length ck) (.slice At (nxt hi (lc.drop (toward (its lc) key + 1))).length ct) (.slice A6 (its (sub x.2)).length c6)
        have KT := kf_tail (w0 := w) (vv := .slice A5 (ps.length + 1) c5) G4.out hO5
        have KT4 := kf_tail (w0 := w) (vv := .slice A5 (ps.length + 1) c5) (Below.refl _ w4) hO5
        have e1 : (ps ++ [([.int .i64 (pc : Int), .int .i64 ((k' : Int) + 1), .slice A1 lo.length c1, .slice A2 hi.length c2, .slice A4 (its lc).length c4, .int .i64 (toward (its lc) key : Int)] : List Value)]).length = ps.length + 1 := by simp
        refine ⟨k', q, x.1, nxt hi (lc.drop (toward (its lc) key + 1)), sub x.2, ps ++ [[.int .i64 (pc : Int), .int .i64 ((k' : Int) + 1), .slice A1 lo.length c1, .slice A2 hi.length c2, .slice A4 (its lc).length c4, .int .i64 (toward (its lc) key : Int)]], A5, c5, Ak, At, A6, ck, ct, c6, by rw [e1], Lib.hid ⟨?_, .inr ⟨1337, hkid⟩, hkx, hPk⟩⟩
        rw [e1]
        refine D.out.step hx hq (kf_round B2.out RR2.out RR3.out G4.out hO5) (N4.out.set5 _ _ _ _ _) (G1.out.kf KT) (G2.out.kf KT) (((G3.out.mono (fun g hg => ?_)).low B3.out.size).kf KT4) (hO5.bel (B3.out.trans (G4.out.mono B3.out.size)) D.out.low) (Dk.owns_of_block RR1.out fun g hg => ?_)
        · have b3 := B3.out.size
          rcases hg with hg | hg | hg
          · show g < w3.heap.size; omega
          · subst hg; exact N3.out.lt
          · exact (World.ownsRow.lt RR1.out g hg).2
        · have hl := World.ownsRow.lt RR1.out g hg
          exact (hO5.block g (by omega)).trans (G4.out.block g hl.2)
      case measure =>
        have := HLV.out
        show k - (ps.length + 1) < k - ps.length
        omega
end
end Go.Proofs.YtcjokkjepgfinaaGreatDoor.Tr
