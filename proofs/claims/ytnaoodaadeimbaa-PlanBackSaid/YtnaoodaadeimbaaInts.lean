import Derived.Test.YtnaoodaadeimbaaMem
import Derived.Test.YtnaoodaadeimbaaOpen
import Derived.Deep.RegionLaw
namespace Go.Proofs.Ytnaoodaadeimbaa.Mem
set_option linter.unusedVariables false
set_option linter.unusedSimpArgs false
open Go.RowKit Go.ChangeShapes Go.WideShapes Go.Deep
/-! Rows of ints (int or int64), variables of a call's own. -/
/-- A []int '.slice A l.length c' that reads as l, its cells in blocks below B. -/
def RdI (w : World) (B : Nat) (A : Option Addr) (c : Nat) (l : List Int) : Prop :=
  l.length ≤ c ∧ c ≤ maxLen ∧ (A = none → c = 0) ∧ (0 < l.length → ∃ b o, A = some ⟨b, o, none⟩ ∧ b < B ∧ ∀ i (h : i < l.length), w.cell? ⟨b, o + i, none⟩ = some (.int .i64 l[i]))

theorem RdI.nil (w : World) (B : Nat) : RdI w B none 0 [] := ⟨by simp, by unfold maxLen; omega, fun _ => rfl, fun h => by simp at h⟩
theorem RdI.keep {w w' : World} {B : Nat} {A : Option Addr} {c : Nat} {l : List Int} (h : RdI w B A c l) (hk : ∀ p : Addr, p.block < B → w'.cell? p = w.cell? p) : RdI w' B A c l :=
  ⟨h.1, h.2.1, h.2.2.1, fun hn => by
    obtain ⟨b, o, e, hb, hc⟩ := h.2.2.2 hn
    exact ⟨b, o, e, hb, fun i hi => (hk ⟨b, o + i, none⟩ hb).trans (hc i hi)⟩⟩
theorem RdI.more {w : World} {B B' : Nat} {A : Option Addr} {c : Nat} {l : List Int} (h : RdI w B A c l) (hB : B ≤ B') : RdI w B' A c l :=
  ⟨h.1, h.2.1, h.2.2.1, fun hn => by
    obtain ⟨b, o, e, hb, hc⟩ := h.2.2.2 hn
    exact ⟨b, o, e, by omega, hc⟩⟩
theorem RdI.below {w w' : World} {B : Nat} {A : Option Addr} {c : Nat} {l : List Int} (h : RdI w B A c l) (hb : Below B w w') : RdI w' B A c l := h.keep fun _ hp => hb.cell hp
/-- A row of ints of the call's own. -/
def OwnJ (e : TypeId) (w : World) (base : Nat) (v : Value) (l : List Int) : Prop := w.ownsRow base e 1 v l.length (l.map (Value.int .i64))
theorem OwnJ.nil (e : TypeId) (w : World) (base : Nat) : OwnJ e w base (.slice none 0 0) [] := World.ownsRow_nil w base e 1
theorem OwnJ.form {e : TypeId} {w : World} {base : Nat} {v : Value} {l : List Int} (h : OwnJ e w base v l) : ∃ A c, v = .slice A l.length c ∧ RdI w w.heap.size A c l ∧ (∀ k, v.ownBlock = some k → base ≤ k ∧ k < w.heap.size) ∧ ∀ a, A = some a → a.spot = none := by
  have hlt := World.ownsRow.lt h
  have hcells := fun g hg => World.ownsRow.cells (g := g) h hg
  rcases h.2 with ⟨rfl, h0⟩ | ⟨g, cap, cur, rfl, hb, hh, hnc, hcm, _, _⟩
  · have : l = [] := List.eq_nil_of_length_eq_zero h0
    subst this
    exact ⟨none, 0, rfl, RdI.nil _ _, hlt, fun _ e => by cases e⟩
  · refine ⟨_, cap, rfl, ⟨hnc, hcm, fun e => (by cases e), fun _ => ⟨g, 0, rfl, (hlt g rfl).2, fun i hi => ?_⟩⟩, hlt, fun _ e => (by cases e; rfl)⟩
    have := hcells g rfl i (Value.int .i64 l[i]) (by simp [hi])
    rw [show (⟨g, 0, none⟩ : Addr).add i = ⟨g, 0 + i, none⟩ by unfold Addr.add; split <;> simp_all] at this
    exact this
theorem OwnJ.below {e : TypeId} {w w' : World} {base B : Nat} {v : Value} {l : List Int} (h : OwnJ e w base v l) (hb : Below B w w') (hB : w.heap.size ≤ B) : OwnJ e w' base v l := by
  refine ⟨h.1, ?_⟩
  rcases h.2 with h2 | ⟨g, cap, cur, hv, hg, hh, r⟩
  · exact .inl h2
  · exact .inr ⟨g, cap, cur, hv, hg, by rw [hb.block g (by have := lt_of_block hh; omega)]; exact hh, r⟩
/-- Type t is []int, e its int. -/
structure IntTy (P : Program) (t e : TypeId) : Prop where
  under : P.underlying t = some (.slice e)
  elem : P.underlying e = some (.int .i64)
  info : ∃ i, P.info? e = some i ∧ i.zero = some (.int .i64 0) ∧ i.size = 1 ∧ i.bytes = 8
theorem OwnJ.lit (e : TypeId) (w : World) (l : List Int) (base : Nat) (hb : base ≤ w.heap.size) (h : l.length ≤ maxLen) : OwnJ e (w.alloc (.cells (l.map (Value.int .i64)).toArray e)) base (.slice (some ⟨w.heap.size, 0, none⟩) l.length l.length) l := by
  have := World.ownsRow_lit (size := 1) (e := e) w (l.map (Value.int .i64)).toArray l.length hb h (by simp)
  unfold OwnJ
  simpa using this
theorem RdI.lit (w : World) (l : List Int) (t : TypeId) (h : l.length ≤ maxLen) (fr : Nat × Nat := (0, 0)) : RdI (w.alloc (.cells (l.map (Value.int .i64)).toArray t fr)) (w.heap.size + 1) (some ⟨w.heap.size, 0, none⟩) l.length l :=
  ⟨Nat.le_refl _, h, (fun e => by cases e), fun _ => ⟨w.heap.size, 0, rfl, by omega, fun i hi => by
    rw [cell_of_row _ _ _ _ _ _ (heap_alloc_new w _), Nat.zero_add]; simp [hi]⟩⟩
theorem RdI.alloc {w : World} {B : Nat} {A : Option Addr} {c : Nat} {l : List Int} (h : RdI w B A c l) (hB : B ≤ w.heap.size) (o : Obj) : RdI (w.alloc o) B A c l :=
  h.below ((Below.refl B w).alloc hB o)
theorem RdI.take {w : World} {B : Nat} {A : Option Addr} {c : Nat} {l : List Int} (h : RdI w B A c l) (k : Nat) (hk : k ≤ l.length) : RdI w B A c (l.take k) :=
  ⟨by have := h.1; simp; omega, h.2.1, h.2.2.1, fun hn => by
    simp at hn
    obtain ⟨b, o, e, hb, hc⟩ := h.2.2.2 (by omega)
    exact ⟨b, o, e, hb, fun i hi => by simp at hi; rw [hc i (by omega)]; simp⟩⟩
/-- The slice from k on. -/
theorem RdI.drop {w : World} {B : Nat} {b o c : Nat} {l : List Int} (h : RdI w B (some ⟨b, o, none⟩) c l) (hb : b < B) (k : Nat) (hk : k ≤ l.length) : RdI w B (some ⟨b, o + k, none⟩) (c - k) (l.drop k) :=
  ⟨by have := h.1; simp; omega, by have := h.2.1; omega, (fun e => by cases e), fun hn => by
    simp at hn
    obtain ⟨b', o', e, _, hc⟩ := h.2.2.2 (by omega)
    injection e with e; injection e with e1 e2 _; subst e1; subst e2
    exact ⟨b, o + k, rfl, hb, fun i hi => by simp at hi; rw [show o + k + i = o + (k + i) by omega, hc (k + i) (by omega)]; simp⟩⟩
theorem run_append_j {P : Program} {t e : TypeId} (T : IntTy P t e) (w : World) (ty : TypeId) (base : Nat) (v : Value) (l : List Int) (hown : OwnJ e w base v l)
    (B : Nat) (A : Option Addr) (c : Nat) (k : List Int) (hr : RdI w B A c k) (hlen : l.length + k.length ≤ 17592186044416) (hbase : base ≤ w.heap.size) :
    ∃ v' w', (Builtin.append_ #[t, t] ty #[v, .slice A k.length c]).run P w = .ok v' w' ∧ OwnJ e w' base v' (l ++ k) ∧ w.grownBy w' v.ownBlock ∧ (v'.ownBlock = v.ownBlock ∨ v'.ownBlock = some w.heap.size) := by
  obtain ⟨i, hi, hz, hs, hby⟩ := T.info
  rcases A with _ | ad
  · have hc := hr.2.2.1 rfl
    have hk : k = [] := List.eq_nil_of_length_eq_zero (by have := hr.1; omega)
    subst hk
    refine ⟨v, w, ?_, by simpa using hown, World.grownBy.refl w _, .inl rfl⟩
    have hsz : ∀ W, (Go.sizeOf e).run P W = .ok 1 W := fun W => by simp [Go.sizeOf, typeInfo, hi, hs]
    rcases hown.2 with ⟨rfl, hn⟩ | ⟨g, cap, cur, rfl, _, _, hnc, _⟩
    · simp [Builtin.append_, run_underlying T.under, hsz, Builtin.lenOf, Builtin.firstCells]
    · simp [Builtin.append_, run_underlying T.under, hsz, Builtin.lenOf, Builtin.firstCells, hnc, storeCells]
  · have hcells : ∀ j u, (k.map (Value.int .i64))[j]? = some u → w.cell? (ad.add j) = some u := by
      intro j u hu
      have hj : j < k.length := by
        rcases Nat.lt_or_ge j k.length with h | h
        · exact h
        · simp [List.getElem?_eq_none h] at hu
      obtain ⟨b, o, e1, _, hc⟩ := hr.2.2.2 (by omega)
      injection e1 with e1
      subst e1
      rw [show (⟨b, o, none⟩ : Addr).add j = ⟨b, o + j, none⟩ by unfold Addr.add; split <;> simp_all, hc j hj]
      simp [hj] at hu
      rw [← hu]
    obtain ⟨v', w', hrun, h2, h3, _, h5⟩ := run_append_own_at (P := P) w base t ty e i _ 1 8 T.under hi hz hs hby rfl (by omega) v l.length (l.map (Value.int .i64)) hown ad k.length c (k.map (Value.int .i64)) (by simp) hcells
      (by intro u hu; simp only [List.mem_map] at hu; obtain ⟨x, _, rfl⟩ := hu; rfl) (by unfold maxLen; omega) (by omega) hbase
    exact ⟨v', w', hrun, by unfold OwnJ; rw [List.length_append, List.map_append]; exact h2, h3, h5⟩

theorem wpList_append_j {P : Program} {t e : TypeId} (T : IntTy P t e) {ops : Array Oper} {rest : List Oper} {o : Oper} {a : Act} {w : World} {Q : Exit → Act → World → Prop} (hgd : o.guard = none) (s x : Operand)
    (ho : o.op = .call { callee := .builtin .append, args := #[s, x], argTypes := #[t, t] })
    (base : Nat) (v : Value) (l : List Int) (hs : a.eval s = v) (hown : OwnJ e w base v l)
    (B : Nat) (A : Option Addr) (m c : Nat) (k : List Int) (hx : a.eval x = .slice A m c) (hm : m = k.length) (hr : RdI w B A c k) (hlen : l.length + k.length ≤ 17592186044416) (hbase : base ≤ w.heap.size)
    (h : ∀ v' w', OwnJ e w' base v' (l ++ k) → w.grownBy w' v.ownBlock → (v'.ownBlock = v.ownBlock ∨ v'.ownBlock = some w.heap.size) → wpList P ops Q rest (a.put o.dst v') w') : wpList P ops Q (o :: rest) a w := by
  subst hm
  obtain ⟨v', w', hrun, h2, h3, h4⟩ := run_append_j T w o.type base v l hown B A c k hr hlen hbase
  refine wpList_plain hgd fun K hK => ?_
  unfold Oper.wp execOp
  simp only [ho, resolve, invoke, builtin, Sem.run_bind, Sem.run_pure, Result.andThen_ok, List.map_toArray, List.map_cons, List.map_nil, hs, hx, hrun]
  exact hK _ _ (h v' w' h2 h3 h4)

/-- append, as one step of a region that draws, where its run is known. -/
theorem step_append_run {P : Program} {ops : Array Oper} {o : Oper} {a : Act} {w : World} {K : Act → World → Prop} {Q : Exit → Act → World → Prop} {E : Prop}
    (hg : o.guard = none) (s x : Operand) (t : TypeId) (hop : o.op = Op.call { callee := Callee.builtin Builtin.append, args := #[s, x], argTypes := #[t, t] })
    (v u : Value) (hs : a.eval s = v) (hx : a.eval x = u) {v' : Value} {w' : World} (hr : (Builtin.append_ #[t, t] o.type #[v, u]).run P w = .ok v' w') (hK : K (a.put o.dst v') w') :
    if Region.wanted o (yielded ops a.tmps) = true then Oper.wp P o a w K Q else E := by
  have hw : Region.wanted o (yielded ops a.tmps) = true := by simp [Region.wanted, hg]
  rw [if_pos hw]
  unfold Oper.wp
  simp [execOp, hop, resolve, invoke, builtin, hs, hx, hr, Result.andThen]
  exact hK
theorem step_append_j {P : Program} {t e : TypeId} (T : IntTy P t e) {ops : Array Oper} {o : Oper} {a : Act} {w : World} {K : Act → World → Prop} {Q : Exit → Act → World → Prop} {E : Prop}
    (hg : o.guard = none) (s x : Operand) (hop : o.op = Op.call { callee := Callee.builtin Builtin.append, args := #[s, x], argTypes := #[t, t] })
    (base : Nat) (v : Value) (l : List Int) (hs : a.eval s = v) (hown : OwnJ e w base v l)
    (B : Nat) (A : Option Addr) (m c : Nat) (k : List Int) (hx : a.eval x = .slice A m c) (hm : m = k.length) (hr : RdI w B A c k) (hlen : l.length + k.length ≤ 17592186044416) (hbase : base ≤ w.heap.size)
    (hK : ∀ v' w', OwnJ e w' base v' (l ++ k) → w.grownBy w' v.ownBlock → (v'.ownBlock = v.ownBlock ∨ v'.ownBlock = some w.heap.size) → K (a.put o.dst v') w') :
    if Region.wanted o (yielded ops a.tmps) = true then Oper.wp P o a w K Q else E := by
  subst hm
  obtain ⟨v', w', hrun, h2, h3, h4⟩ := run_append_j T w o.type base v l hown B A c k hr hlen hbase
  exact step_append_run hg s x t hop v _ hs hx hrun (hK v' w' h2 h3 h4)
section
variable {H : Type} {enc : TypeId × Value → H} {P : Program} {w : World} {base : Nat} {spare : Nat → Bool} {held : Bool}
/-- A []int that came in, as numbers within their bounds. -/
theorem rdz_of_trod {t e : TypeId} {A : Option Addr} {len cap : Nat} {d : DataW H} {p : List MemPlace} (ht : P.underlying t = some (.slice e)) (he : P.underlying e = some (.int .i64)) (hc : P.cellsOf e = 1)
    (h : DataW.Trod enc P w base spare held t (.slice A len cap) d p) : ∃ l : List Int, l.length = len ∧ (RdI w w.heap.size A cap l ∧ ∀ x ∈ l, -9223372036854775808 ≤ x ∧ x ≤ 9223372036854775807) := by
  obtain ⟨fuel, hf⟩ := h
  rcases open_ints ht he hc hf with ⟨hcs, _⟩ | ⟨a, len', cap', zs, hcs, _, hl, hm, hz, _, hcell, hwz⟩
  · simp [Value.cells] at hcs
    obtain ⟨rfl, rfl, rfl⟩ := hcs
    exact ⟨[], rfl, RdI.nil _ _, by simp⟩
  · simp [Value.cells] at hcs
    obtain ⟨rfl, rfl, rfl⟩ := hcs
    have hzl : len ≤ zs.length := by rw [hz]; split <;> omega
    refine ⟨zs.take len, by simp; omega, ⟨by simp; omega, hm, fun e => (by cases e), fun hp => ?_⟩, fun x hx => ?_⟩
    · simp at hp
      have h0 := hcell 0 (by omega)
      obtain ⟨b, o, sp⟩ := a
      have hsp : sp = none := by simpa [Addr.add] using World.cell?_spot h0
      subst hsp
      refine ⟨b, o, rfl, by rw [add_plain] at h0; exact block_lt h0, fun i hi => ?_⟩
      simp at hi
      have hci := hcell i (by omega)
      rw [add_plain] at hci
      rw [hci]
      have e1 : zs.getD i 0 = zs[i]'(by omega) := by rw [List.getD_eq_getElem?_getD, List.getElem?_eq_getElem (by omega)]; rfl
      rw [e1]
      simp
    · have hw := hwz x (List.mem_of_mem_take hx)
      simpa [Lit.wf, IntKind.min, IntKind.max, IntKind.bits, IntKind.signed] using hw
end
/-- Block b is a variable, its cells xs. -/
structure VN (w : World) (b : Nat) (xs : List Value) : Prop where
  lt : b < w.heap.size
  c : ∀ j v, xs[j]? = some v → w.cell? ⟨b, j, none⟩ = some v
  z : ∀ i, w.frozen? ⟨b, i, none⟩ = false
  top : ∀ i, xs.length ≤ i → w.cell? ⟨b, i, none⟩ = none
section
variable {w w' : World} {b : Nat} {xs : List Value}
theorem VN.new (w : World) (cs : Array Value) (t : TypeId) : VN (w.alloc (.cells cs t)) w.heap.size cs.toList :=
  ⟨by simp, fun j v h => by rw [cell_of_row _ _ _ _ _ _ (heap_alloc_new w _)]; simpa using h, fun i => by simp [go_sem], fun i h => by rw [cell_of_row _ _ _ _ _ _ (heap_alloc_new w _)]; exact Array.getElem?_eq_none (by simpa using h)⟩
theorem VN.bel (h : VN w b xs) (hb : Below w.heap.size w w') : VN w' b xs :=
  have e := hb.block b h.lt
  ⟨Nat.lt_of_lt_of_le h.lt hb.size, fun j v hv => (World.cell?_of_block e).trans (h.c j v hv), fun i => (World.frozen?_of_block (w := w) e).trans (h.z i), fun i hi => (World.cell?_of_block e).trans (h.top i hi)⟩
theorem size_setCell (w : World) (p : Addr) (u : Value) : (w.setCell p u).heap.size = w.heap.size := by simp [World.setCell]
theorem VN.set (h : VN w b xs) (j : Nat) (hj : j < xs.length) (u : Value) : VN (w.setCell ⟨b, j, none⟩ u) b (xs.set j u) :=
  ⟨by rw [size_setCell]; exact h.lt, fun i v hv => by
    by_cases e : i = j
    · subst e
      rw [List.getElem?_set_self hj] at hv
      injection hv with hv
      subst hv
      exact World.cell?_setCell_same _ _ _ (h.c i _ (List.getElem?_eq_getElem hj))
    · rw [List.getElem?_set_ne (fun e2 => e e2.symm)] at hv
      exact (World.cell?_setCell_other _ _ _ _ (fun e2 => e (by injection e2 with _ e3 _; exact e3.symm))).trans (h.c i v hv), fun i => (World.frozen?_setCell _ _ _ _).trans (h.z i), fun i hi => by
    rw [List.length_set] at hi
    exact (World.cell?_setCell_other _ _ _ _ (fun e2 => by injection e2 with _ e3 _; omega)).trans (h.top i hi)⟩
theorem VN.other (h : VN w b xs) {p : Addr} (hp : p.block ≠ b) (u : Value) : VN (w.setCell p u) b xs :=
  ⟨by rw [size_setCell]; exact h.lt, fun i v hv => (World.cell?_setCell_other _ _ _ _ (fun e => hp (by rw [e]))).trans (h.c i v hv), fun i => (World.frozen?_setCell _ _ _ _).trans (h.z i), fun i hi => (World.cell?_setCell_other _ _ _ _ (fun e => hp (by rw [e]))).trans (h.top i hi)⟩
theorem VN.drew (h : VN w b xs) : VN w.drew b xs := ⟨h.lt, h.c, h.z, h.top⟩
theorem VN.drewN (h : VN w b xs) (n : Nat) : VN (w.drewN n) b xs := ⟨h.lt, h.c, h.z, h.top⟩
theorem VN.alloc (h : VN w b xs) (o : Obj) : VN (w.alloc o) b xs := h.bel ⟨rfl, rfl, rfl, by simp, fun k hk => Below.heap_alloc w o k hk⟩
theorem bel_set {w0 : World} {B k i : Nat} (h : Below B w0 w) (hk : B ≤ k) (u : Value) : Below B w0 (w.setCell ⟨k, i, none⟩ u) := h.setCell hk u
theorem below_drewN {B : Nat} {a w : World} (h : Below B a w) (n : Nat) : Below B a (w.drewN n) := h.trans ⟨rfl, rfl, rfl, Nat.le_refl _, fun _ _ => rfl⟩
end
end Go.Proofs.Ytnaoodaadeimbaa.Mem
