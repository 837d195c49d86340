import Derived.Test.YtnpebfolmdbipaaGreatDoorD1
namespace Go.Proofs.YtnpebfolmdbipaaGreatDoor.Dk
set_option maxRecDepth 4000
set_option linter.unusedVariables false
set_option linter.unusedSimpArgs false
open Go.RowKit Mem
theorem i64_info : (Tryz.prog.info? 3).map (fun i => (i.zero, i.size, i.bytes)) = some (some (.int .i64 0), 1, 8) := by kernel_rfl
/-- A []byte '.slice A l.length c' that reads as l, its cells in blocks below B. -/
def RdI (w : World) (B : Nat) (A : Option Addr) (c : Nat) (l : List Int) : Prop :=
  l.length ≤ c ∧ c ≤ maxLen ∧ (A = none → c = 0) ∧ (0 < l.length → ∃ b o, A = some ⟨b, o, none⟩ ∧ b < B ∧ ∀ i (h : i < l.length), w.cell? ⟨b, o + i, none⟩ = some (.int .i64 l[i]))

theorem RdI.nil (w : World) (B : Nat) : RdI w B none 0 [] := ⟨by simp, by unfold maxLen; omega, fun _ => rfl, fun h => by simp at h⟩
theorem RdI.keep {w w' : World} {B : Nat} {A : Option Addr} {c : Nat} {l : List Int} (h : RdI w B A c l) (hk : ∀ p : Addr, p.block < B → w'.cell? p = w.cell? p) : RdI w' B A c l :=
  ⟨h.1, h.2.1, h.2.2.1, fun hn => by
    obtain ⟨b, o, e, hb, hc⟩ := h.2.2.2 hn
    exact ⟨b, o, e, hb, fun i hi => (hk ⟨b, o + i, none⟩ hb).trans (hc i hi)⟩⟩
theorem RdI.more {w : World} {B B' : Nat} {A : Option Addr} {c : Nat} {l : List Int} (h : RdI w B A c l) (hB : B ≤ B') : RdI w B' A c l :=
  ⟨h.1, h.2.1, h.2.2.1, fun hn => by
    obtain ⟨b, o, e, hb, hc⟩ := h.2.2.2 hn
    exact ⟨b, o, e, by omega, hc⟩⟩
theorem RdI.below {w w' : World} {B : Nat} {A : Option Addr} {c : Nat} {l : List Int} (h : RdI w B A c l) (hb : Below B w w') : RdI w' B A c l := h.keep fun _ hp => hb.cell hp
/-- A row of bytes of the call's own. -/
def OwnI (w : World) (base : Nat) (v : Value) (l : List Int) : Prop := w.ownsRow base 3 1 v l.length (l.map (Value.int .i64))
theorem OwnI.nil (w : World) (base : Nat) : OwnI w base (.slice none 0 0) [] := World.ownsRow_nil w base 3 1
theorem OwnI.form {w : World} {base : Nat} {v : Value} {l : List Int} (h : OwnI w base v l) : ∃ A c, v = .slice A l.length c ∧ RdI w w.heap.size A c l ∧ (∀ k, v.ownBlock = some k → base ≤ k ∧ k < w.heap.size) ∧ ∀ a, A = some a → a.spot = none := by
  have hlt := World.ownsRow.lt h
  have hcells := fun g hg => World.ownsRow.cells (g := g) h hg
  rcases h.2 with ⟨rfl, h0⟩ | ⟨g, cap, cur, rfl, hb, hh, hnc, hcm, _, _⟩
  · have : l = [] := List.eq_nil_of_length_eq_zero h0
    subst this
    exact ⟨none, 0, rfl, RdI.nil _ _, hlt, fun _ e => by cases e⟩
  · refine ⟨_, cap, rfl, ⟨hnc, hcm, fun e => (by cases e), fun _ => ⟨g, 0, rfl, (hlt g rfl).2, fun i hi => ?_⟩⟩, hlt, fun _ e => (by cases e; rfl)⟩
    have := hcells g rfl i (Value.int .i64 l[i]) (by simp [hi])
    rw [show (⟨g, 0, none⟩ : Addr).add i = ⟨g, 0 + i, none⟩ by unfold Addr.add; split <;> simp_all] at this
    exact this
theorem OwnI.below {w w' : World} {base B : Nat} {v : Value} {l : List Int} (h : OwnI w base v l) (hb : Below B w w') (hB : w.heap.size ≤ B) : OwnI w' base v l := by
  refine ⟨h.1, ?_⟩
  rcases h.2 with h2 | ⟨g, cap, cur, hv, hg, hh, r⟩
  · exact .inl h2
  · exact .inr ⟨g, cap, cur, hv, hg, by rw [hb.block g (by have := lt_of_block hh; omega)]; exact hh, r⟩
theorem run_append_i (w : World) (ty : TypeId) (base : Nat) (v : Value) (l : List Int) (hown : OwnI w base v l)
    (B : Nat) (A : Option Addr) (c : Nat) (k : List Int) (hr : RdI w B A c k) (hlen : l.length + k.length ≤ 1000000000) (hbase : base ≤ w.heap.size) :
    ∃ v' w', (Builtin.append_ #[47, 47] ty #[v, .slice A k.length c]).run Tryz.prog w = .ok v' w' ∧ OwnI w' base v' (l ++ k) ∧ w.grownBy w' v.ownBlock ∧ (v'.ownBlock = v.ownBlock ∨ v'.ownBlock = some w.heap.size) := by
  obtain ⟨i, hi, hz, hs, hby⟩ := info_parts i64_info
  rcases A with _ | ad
  · have hc := hr.2.2.1 rfl
    have hk : k = [] := List.eq_nil_of_length_eq_zero (by have := hr.1; omega)
    subst hk
    refine ⟨v, w, ?_, by simpa using hown, World.grownBy.refl w _, .inl rfl⟩
    have hsz : ∀ W, (Go.sizeOf 3).run Tryz.prog W = .ok 1 W := fun W => by simp [Go.sizeOf, typeInfo, hi, hs]
    rcases hown.2 with ⟨rfl, hn⟩ | ⟨g, cap, cur, rfl, _, _, hnc, _⟩
    · simp [Builtin.append_, run_underlying Tryz.underlying47, hsz, Builtin.lenOf, Builtin.firstCells]
    · simp [Builtin.append_, run_underlying Tryz.underlying47, hsz, Builtin.lenOf, Builtin.firstCells, hnc, storeCells]
  · have hcells : ∀ j u, (k.map (Value.int .i64))[j]? = some u → w.cell? (ad.add j) = some u := by
      intro j u hu
      have hj : j < k.length := by
        rcases Nat.lt_or_ge j k.length with h | h
        · exact h
        · simp [List.getElem?_eq_none h] at hu
      obtain ⟨b, o, e1, _, hc⟩ := hr.2.2.2 (by omega)
      injection e1 with e1
      subst e1
      rw [show (⟨b, o, none⟩ : Addr).add j = ⟨b, o + j, none⟩ by unfold Addr.add; split <;> simp_all, hc j hj]
      simp [hj] at hu
      rw [← hu]
    obtain ⟨v', w', hrun, h2, h3, _, h5⟩ := run_append_own_at (P := Tryz.prog) w base 47 ty 3 i _ 1 8 Tryz.underlying47 hi hz hs hby rfl (by omega) v l.length (l.map (Value.int .i64)) hown ad k.length c (k.map (Value.int .i64)) (by simp) hcells
      (by intro u hu; simp only [List.mem_map] at hu; obtain ⟨x, _, rfl⟩ := hu; rfl) (by unfold maxLen; omega) (by omega) hbase
    exact ⟨v', w', hrun, by unfold OwnI; rw [List.length_append, List.map_append]; exact h2, h3, h5⟩

theorem wpList_append_i {ops : Array Oper} {rest : List Oper} {o : Oper} {a : Act} {w : World} {Q : Exit → Act → World → Prop} (hgd : o.guard = none) (s x : Operand)
    (ho : o.op = .call { callee := .builtin .append, args := #[s, x], argTypes := #[47, 47] })
    (base : Nat) (v : Value) (l : List Int) (hs : a.eval s = v) (hown : OwnI w base v l)
    (B : Nat) (A : Option Addr) (m c : Nat) (k : List Int) (hx : a.eval x = .slice A m c) (hm : m = k.length) (hr : RdI w B A c k) (hlen : l.length + k.length ≤ 1000000000) (hbase : base ≤ w.heap.size)
    (h : ∀ v' w', OwnI w' base v' (l ++ k) → w.grownBy w' v.ownBlock → (v'.ownBlock = v.ownBlock ∨ v'.ownBlock = some w.heap.size) → wpList Tryz.prog ops Q rest (a.put o.dst v') w') : wpList Tryz.prog ops Q (o :: rest) a w := by
  subst hm
  obtain ⟨v', w', hrun, h2, h3, h4⟩ := run_append_i w o.type base v l hown B A c k hr hlen hbase
  refine wpList_plain hgd fun K hK => ?_
  unfold Oper.wp execOp
  simp only [ho, resolve, invoke, builtin, Sem.run_bind, Sem.run_pure, Result.andThen_ok, List.map_toArray, List.map_cons, List.map_nil, hs, hx, hrun]
  exact hK _ _ (h v' w' h2 h3 h4)

theorem RdI.alloc {w : World} {B : Nat} {A : Option Addr} {c : Nat} {l : List Int} (h : RdI w B A c l) (hB : B ≤ w.heap.size) (o : Obj) : RdI (w.alloc o) B A c l :=
  h.below ((Below.refl B w).alloc hB o)

end Go.Proofs.YtnpebfolmdbipaaGreatDoor.Dk
