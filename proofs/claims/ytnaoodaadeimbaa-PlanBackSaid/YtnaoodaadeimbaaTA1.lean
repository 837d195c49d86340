import Derived.Test.YtnaoodaadeimbaaTA2
namespace Go.Proofs.Ytnaoodaadeimbaa.Ti
set_option linter.unusedVariables false
set_option linter.unusedSimpArgs false
open Go.RowKit Mem Mo
/-- The cells of the first m tiers. -/
def vals (u p : Nat → Int) (m : Nat) : List Value := (List.range (m * 2)).map fun j => if j % 2 = 0 then .int .i64 (u (j / 2)) else .int .i64 (p (j / 2))
theorem vals_len (u p : Nat → Int) (m : Nat) : (vals u p m).length = m * 2 := by simp [vals]
theorem vals_at (u p : Nat → Int) (m : Nat) {j : Nat} (hj : j < m * 2) : (vals u p m)[j]? = some (if j % 2 = 0 then .int .i64 (u (j / 2)) else .int .i64 (p (j / 2))) := by
  simp [vals, hj]
theorem tierParts : ∃ i, Try.prog.info? 58 = some i ∧ i.zero = some (.agg #[.int .i64 0, .int .i64 0]) ∧ i.size = 2 ∧ i.bytes = 16 := by
  have h : (Try.prog.info? 58).map (fun i => (i.zero, i.size, i.bytes)) = some (some (.agg #[.int .i64 0, .int .i64 0]), 2, 16) := by kernel_rfl
  exact info_parts h
theorem run_append_t (w : World) (ty : TypeId) (base : Nat) (v : Value) (hown : w.ownsRow base 58 2 v 0 [])
    (A : Option Addr) (c m : Nat) (u p : Nat → Int) (B : Nat) (hr : RdT w B A c u p m) (hm : m ≤ 1000) (hbase : base ≤ w.heap.size) :
    ∃ v' w', (Builtin.append_ #[23, 23] ty #[v, .slice A m c]).run Try.prog w = .ok v' w' ∧ w'.ownsRow base 58 2 v' m (vals u p m) ∧ w.grownBy w' v.ownBlock := by
  obtain ⟨i, hi, hz, hs, hby⟩ := tierParts
  have hadd : ∀ (b o j : Nat), (⟨b, o, none⟩ : Addr).add j = ⟨b, o + j, none⟩ := fun b o j => by unfold Addr.add; split <;> simp_all
  rcases A with _ | ad
  · obtain rfl : m = 0 := by
      rcases Nat.eq_zero_or_pos m with h | h
      · exact h
      · obtain ⟨b, o, e, _⟩ := hr.2.2 h; cases e
    have hsz : ∀ W, (Go.sizeOf 58).run Try.prog W = .ok 2 W := fun W => by simp [Go.sizeOf, typeInfo, hi, hs]
    refine ⟨v, w, ?_, hown, World.grownBy.refl w _⟩
    rcases hown.2 with ⟨rfl, hn⟩ | ⟨g, cap, cur, rfl, _, _, hnc, _⟩
    · simp [Builtin.append_, run_underlying Try.underlying23, hsz, Builtin.lenOf, Builtin.firstCells]
    · simp [Builtin.append_, run_underlying Try.underlying23, hsz, Builtin.lenOf, Builtin.firstCells, hnc, storeCells]
  · have hcells : ∀ j x, (vals u p m)[j]? = some x → w.cell? (ad.add j) = some x := by
      intro j x hx
      have hj : j < m * 2 := by have := (List.getElem?_eq_some_iff.1 hx).1; rwa [vals_len] at this
      obtain ⟨b, o, e, _, hc⟩ := hr.2.2 (by omega)
      injection e with e
      subst e
      rw [vals_at u p m hj] at hx
      rw [hadd]
      split at hx
      · cases hx
        have := (hc (j / 2) (by omega)).1
        rwa [show o + j / 2 * 2 = o + j by omega] at this
      · cases hx
        have := (hc (j / 2) (by omega)).2
        rwa [show o + j / 2 * 2 + 1 = o + j by omega] at this
    have hone : ∀ x ∈ vals u p m, x.oneCell' = true := by
      intro x hx
      obtain ⟨j, hj⟩ := List.mem_iff_getElem?.1 hx
      have hj2 : j < m * 2 := by have := (List.getElem?_eq_some_iff.1 hj).1; rwa [vals_len] at this
      rw [vals_at u p m hj2] at hj
      split at hj <;> (cases hj; rfl)
    obtain ⟨v', w', hrun, h2, h3, _, h5⟩ := run_append_own_at (P := Try.prog) w base 23 ty 58 i _ 2 16 Try.underlying23 hi hz hs hby rfl (by omega) v 0 [] hown ad m c (vals u p m) (vals_len u p m) hcells
      hone (by unfold maxLen; omega) (by omega) hbase
    exact ⟨v', w', hrun, by simpa using h2, h3⟩
/-- An own row of tiers reads as them. -/
theorem ownT_form {w : World} {base : Nat} {v : Value} {m : Nat} {u p : Nat → Int} (h : w.ownsRow base 58 2 v m (vals u p m)) : ∃ A c, v = .slice A m c ∧ RdT w w.heap.size A c u p m := by
  have hlt := World.ownsRow.lt h
  have hcells := fun g hg => World.ownsRow.cells (g := g) h hg
  have hadd : ∀ (b o j : Nat), (⟨b, o, none⟩ : Addr).add j = ⟨b, o + j, none⟩ := fun b o j => by unfold Addr.add; split <;> simp_all
  rcases h.2 with ⟨rfl, h0⟩ | ⟨g, cap, cur, rfl, hb, hh, hnc, hcm, _, _⟩
  · subst h0
    exact ⟨none, 0, rfl, RdT.nil _ _ _ _⟩
  · refine ⟨_, cap, rfl, hnc, hcm, fun _ => ⟨g, 0, rfl, (hlt g rfl).2, fun k hk => ⟨?_, ?_⟩⟩⟩
    · have := hcells g rfl (k * 2) _ (vals_at u p m (j := k * 2) (by omega))
      rw [hadd, if_pos (by omega), show k * 2 / 2 = k by omega] at this
      exact this
    · have := hcells g rfl (k * 2 + 1) _ (vals_at u p m (j := k * 2 + 1) (by omega))
      rw [hadd, if_neg (by omega), show (k * 2 + 1) / 2 = k by omega] at this
      rw [Nat.add_assoc]; exact this
theorem wpList_append_t {ops : Array Oper} {rest : List Oper} {o : Oper} {a : Act} {w : World} {Q : Exit → Act → World → Prop} (hgd : o.guard = none) (s x : Operand)
    (ho : o.op = .call { callee := .builtin .append, args := #[s, x], argTypes := #[23, 23] })
    (base : Nat) (v : Value) (hs : a.eval s = v) (hown : w.ownsRow base 58 2 v 0 [])
    (A : Option Addr) (c m : Nat) (u p : Nat → Int) (B : Nat) (hx : a.eval x = .slice A m c) (hr : RdT w B A c u p m) (hm : m ≤ 1000) (hbase : base ≤ w.heap.size)
    (h : ∀ v' w', w'.ownsRow base 58 2 v' m (vals u p m) → w.grownBy w' v.ownBlock → wpList Try.prog ops Q rest (a.put o.dst v') w') : wpList Try.prog ops Q (o :: rest) a w := by
  obtain ⟨v', w', hrun, h2, h3⟩ := run_append_t w o.type base v hown A c m u p B hr hm hbase
  refine wpList_plain hgd fun K hK => ?_
  unfold Oper.wp execOp
  simp only [ho, resolve, invoke, builtin, Sem.run_bind, Sem.run_pure, Result.andThen_ok, List.map_toArray, List.map_cons, List.map_nil, hs, hx, hrun]
  exact hK _ _ (h v' w' h2 h3)
end Go.Proofs.Ytnaoodaadeimbaa.Ti
