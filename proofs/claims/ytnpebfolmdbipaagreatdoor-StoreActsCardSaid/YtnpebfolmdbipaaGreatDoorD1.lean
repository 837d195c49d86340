import Derived.Test.YtnpebfolmdbipaaGreatDoorMem
import Derived.Test.YtnpebfolmdbipaaGreatDoorRows
import Derived.Maps.OwnSet
import Derived.Deep.OwnRows
namespace Go.Proofs.YtnpebfolmdbipaaGreatDoor.Dk
set_option linter.unusedVariables false
set_option linter.unusedSimpArgs false
open Go.RowKit Mem Go.ChangeMaps

/-- How an element of a map is told: an array's block with its length and capacity, nil, or a bool. -/
def cod : Value → Option (DataW Unit)
  | .slice (some ⟨b, 0, none⟩) n c => some (.agg [.lit (.int .i64 b), .lit (.int .i64 n), .lit (.int .i64 c)])
  | .slice none 0 0 => some .nil
  | .bool x => some (.lit (.bool x))
  | _ => none
def elem (v : Value) : Option (DataW Unit × List MemPlace) := (cod v).map fun z => (z, [])
theorem cod_inj {v v' : Value} {z : DataW Unit} (h : cod v = some z) (h' : cod v' = some z) : v = v' := by
  unfold cod at h h'
  split at h <;> split at h' <;> first | (cases h; done) | (cases h'; done) | skip
  all_goals (injection h with h; injection h' with h'; subst h)
  all_goals first | (cases h'; done) | skip
  all_goals first | rfl | skip
  · simp only [DataW.agg.injEq, List.cons.injEq, DataW.lit.injEq, Lit.int.injEq, true_and, and_true] at h'
    obtain ⟨h1, h2, h3⟩ := h'
    rw [Int.ofNat_inj.1 h1, Int.ofNat_inj.1 h2, Int.ofNat_inj.1 h3]
  · simp only [DataW.lit.injEq, Lit.bool.injEq] at h'
    rw [h']
theorem elem_mk {v : Value} {z : DataW Unit} (h : cod v = some z) : elem v = some (z, []) := by simp [elem, h]
theorem elem_inv {v : Value} {z : DataW Unit} {ps : List MemPlace} (h : elem v = some (z, ps)) : cod v = some z := by
  unfold elem at h
  cases hc : cod v <;> simp [hc] at h
  rw [h.1]
abbrev key (k : Nat) : Lit := .int .i64 (k : Int)
theorem key_inj {a b : Nat} (h : a ≠ b) : key a ≠ key b := by intro e; injection e with _ e2; omega
theorem wf_key (k : Nat) (h : k < 4611686018427387904) : (Lit.int .i64 (k : Int)).wf = true := WalkArith.wf_i64 (by omega)
theorem keyed3 : Maps.Keyed Tryz.prog 3 := Maps.int_keyed Tryz.underlying3

/-- Block b is a map of at most m entries; at key k lies V k, or there is none. -/
def MapIs (w : World) (b m : Nat) (zv : Value) (V : Nat → Option Value) : Prop :=
  ∃ D zd, cod zv = some zd ∧ w.ownsMap Tryz.prog 3 elem b m D ∧ ∀ k : Nat, k < 4611686018427387904 → Maps.has D (key k) = (V k).isSome ∧ cod ((V k).getD zv) = some (D.atKey (key k) zd)

section
variable {w : World} {b m : Nat} {zv : Value} {V : Nat → Option Value}

theorem MapIs.made (w : World) (zv : Value) {zd : DataW Unit} (hz : cod zv = some zd) : MapIs (w.alloc (.map #[] 0)) w.heap.size 0 zv (fun _ => none) :=
  ⟨.map [], zd, hz, World.ownsMap_made w Tryz.prog 3 elem, fun k _ => ⟨rfl, hz⟩⟩
theorem MapIs.lt (h : MapIs w b m zv V) : b < w.heap.size := by obtain ⟨D, zd, _, ho, _⟩ := h; exact ho.lt
theorem MapIs.mono (h : MapIs w b m zv V) {m' : Nat} (hm : m ≤ m') : MapIs w b m' zv V := by obtain ⟨D, zd, hz, ho, hv⟩ := h; exact ⟨D, zd, hz, ho.mono hm, hv⟩
theorem MapIs.of_block {w' : World} (h : MapIs w b m zv V) (e : w'.heap[b]? = w.heap[b]?) : MapIs w' b m zv V := by
  obtain ⟨D, zd, hz, ⟨es, cl, hb, r⟩, hv⟩ := h
  exact ⟨D, zd, hz, ⟨es, cl, e.trans hb, r⟩, hv⟩

theorem MapIs.look {t e : TypeId} (h : MapIs w b m zv V) (ht : Tryz.prog.underlying t = some (.map 3 e)) (hz : (zeroValue e).run Tryz.prog w = .ok zv w) (k : Nat) (hk : k < 4611686018427387904) :
    (Instr.lookup t (.map (some b)) (.int .i64 k) false).run Tryz.prog w = .ok ((V k).getD zv) w := by
  obtain ⟨D, zd, hzd, ho, hv⟩ := h
  obtain ⟨v, ps, hrun, hR⟩ := ho.lookup keyed3 ht hz (elem_mk hzd) (Maps.keyOf_int_mk Tryz.underlying3 (wf_key k hk))
  rw [hrun, cod_inj (elem_inv hR) (hv k hk).2]
theorem MapIs.look_ok {t e : TypeId} (h : MapIs w b m zv V) (ht : Tryz.prog.underlying t = some (.map 3 e)) (hz : (zeroValue e).run Tryz.prog w = .ok zv w) (k : Nat) (hk : k < 4611686018427387904) :
    (Instr.lookup t (.map (some b)) (.int .i64 k) true).run Tryz.prog w = .ok (.tuple #[(V k).getD zv, .bool (V k).isSome]) w := by
  obtain ⟨D, zd, hzd, ho, hv⟩ := h
  obtain ⟨v, ps, hrun, hR⟩ := ho.look_ok keyed3 ht hz (elem_mk hzd) (Maps.keyOf_int_mk Tryz.underlying3 (wf_key k hk))
  rw [hrun, cod_inj (elem_inv hR) (hv k hk).2, (hv k hk).1]
theorem MapIs.store {t e : TypeId} (h : MapIs w b m zv V) (ht : Tryz.prog.underlying t = some (.map 3 e)) (hm : m < maxLen) (k : Nat) (hk : k < 4611686018427387904) (v : Value) {z : DataW Unit} (hv : cod v = some z) :
    ∃ w', (Instr.mapUpdate t (.map (some b)) (.int .i64 k) v).run Tryz.prog w = .ok () w' ∧ MapIs w' b (m + 1) zv (fun j => if j = k then some v else V j) ∧ w.mapTurned w' b := by
  obtain ⟨D, zd, hzd, ho, hV⟩ := h
  have hkey := Maps.keyOf_int_mk Tryz.underlying3 (wf_key k hk)
  obtain ⟨w', hrun, ho', hg⟩ := ho.store keyed3 ht hm hkey (elem_mk hv)
  refine ⟨w', hrun, ⟨_, zd, hzd, ho', fun j hj => ?_⟩, hg⟩
  have hI := ho.isMap
  by_cases e : j = k
  · subst e
    show Maps.has _ _ = (if j = j then some v else V j).isSome ∧ cod ((if j = j then some v else V j).getD zv) = _
    rw [if_pos rfl, Maps.has_put_same hI (keyed3.key hkey), Maps.atKey_put_same hI (keyed3.key hkey)]
    exact ⟨rfl, hv⟩
  · show Maps.has _ _ = (if j = k then some v else V j).isSome ∧ cod ((if j = k then some v else V j).getD zv) = _
    rw [if_neg e, Maps.has_put_other (key_inj e), Maps.atKey_put_other (key_inj e)]
    exact hV j hj
theorem MapIs.clear {t e : TypeId} (h : MapIs w b m zv V) (ht : Tryz.prog.underlying t = some (.map 3 e)) (ty : TypeId) :
    ∃ w', (Builtin.clear_ #[t] ty #[.map (some b)]).run Tryz.prog w = .ok (.tuple #[]) w' ∧ MapIs w' b 0 zv (fun _ => none) ∧ w.mapTurned w' b := by
  obtain ⟨D, zd, hzd, ⟨es, cl, hb, F, _, _⟩, hV⟩ := h
  refine ⟨ChangeMaps.setBlock w b (.map #[] cl), ?_, ⟨.map [], zd, hzd, ⟨#[], cl, heap_setBlock_same hb _, ⟨by simp, ?_, by simp⟩, Nat.le_refl _, rfl⟩, fun k _ => ⟨rfl, hzd⟩⟩, ⟨es, cl, #[], cl, hb, rfl⟩⟩
  · simp [Builtin.clear_, run_underlying ht, MapKept.run_getObj_map hb, MapKept.run_setObj_map _ hb, Result.andThen]
    rfl
  · exact MapKept.stamped_empty cl
end
end Go.Proofs.YtnpebfolmdbipaaGreatDoor.Dk
