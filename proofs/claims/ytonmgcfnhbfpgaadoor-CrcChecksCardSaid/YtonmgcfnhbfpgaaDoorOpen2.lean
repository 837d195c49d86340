import Derived.Test.YtonmgcfnhbfpgaaDoorW2
import Derived.Test.YtonmgcfnhbfpgaaDoorOpen
namespace Go.Proofs.YtonmgcfnhbfpgaaDoor
open Go.RowKit Go.ChangeShapes Go.WideShapes Go.Deep Mem
section
variable {H : Type} {enc : TypeId × Value → H} {P : Program} {w : World} {base : Nat} {spare : Nat → Bool} {held : Bool}

theorem rd_of_cells {t e : TypeId} {n : Nat} {cs : List Value} {x : DataW H × List MemPlace} (ht : P.underlying t = some (.slice e)) (he : P.underlying e = some (.int .u8)) (hc : P.cellsOf e = 1)
    (h : DataW.trod enc P w base spare held n t cs = some x) : ∃ p : Part, cs = [.slice p.A p.l.length p.c] ∧ Rd w w.heap.size p.A p.c p.l := by
  have h' := h
  rcases open_ints ht he hc h with ⟨hcs, _⟩ | ⟨a, len, cap, zs, hcs, _, hl, hm, hz, _, _⟩
  · exact ⟨⟨none, 0, []⟩, hcs, Rd.nil _ _⟩
  · subst hcs
    obtain ⟨l, hll, hr⟩ := rd_of_trod (A := some a) (len := len) (cap := cap) (d := x.1) (p := x.2) ht he hc ⟨n, by simpa [Value.cells] using h'⟩
    exact ⟨⟨some a, cap, l⟩, by rw [hll], hr⟩

/-- A [][]byte that came in, as parts. -/
theorem pts_of_trod {t e e2 : TypeId} {A : Option Addr} {len cap : Nat} {d : DataW H} {p : List MemPlace} (ht : P.underlying t = some (.slice e)) (he : P.underlying e = some (.slice e2)) (he2 : P.underlying e2 = some (.int .u8)) (hc : P.cellsOf e = 1) (hc2 : P.cellsOf e2 = 1)
    (h : DataW.Trod enc P w base spare held t (.slice A len cap) d p) : ∃ ps : List Part, ps.length = len ∧ Pts w w.heap.size A cap ps := by
  obtain ⟨fuel, hf⟩ := h
  rcases open_slice ht hf with ⟨hcs, _⟩ | ⟨a, len', cap', m, n, D, Pl, hcs, _, hl, hm, hmm, _, hi⟩
  · simp [Value.cells] at hcs
    obtain ⟨rfl, rfl, rfl⟩ := hcs
    exact ⟨[], rfl, Pts.nil _ _⟩
  · simp [Value.cells] at hcs
    obtain ⟨rfl, rfl, rfl⟩ := hcs
    have hle : len ≤ m := by rw [hmm]; split <;> omega
    have key : ∀ i, i < len → ∃ q : Part, w.cell? (a.add i) = some (.slice q.A q.l.length q.c) ∧ Rd w w.heap.size q.A q.c q.l := by
      intro i him
      obtain ⟨cs', hc', ht'⟩ := hi i (by omega)
      rw [hc, Nat.mul_one] at hc'
      obtain ⟨_, hcl, hat⟩ := World.cells?_some hc'
      obtain ⟨q, hq, hr⟩ := rd_of_cells he he2 hc2 ht'
      subst hq
      have h0 := hat 0 (by omega)
      refine ⟨q, ?_, hr⟩
      rw [Go.Deep.add_add] at h0
      simpa using h0
    refine ⟨(List.range len).pmap (fun i hi => (key i hi).choose) (fun i hi => by simpa using hi), by simp, by simp; exact hl, hm, fun e => (by cases e), fun hp => ?_⟩
    simp at hp
    obtain ⟨b, o, sp⟩ := a
    obtain ⟨q0, hq0, _⟩ := key 0 hp
    have hsp : sp = none := by simpa [Addr.add] using World.cell?_spot hq0
    subst hsp
    refine ⟨b, o, rfl, by rw [Mem.add_plain] at hq0; exact block_lt hq0, fun i hi => ?_⟩
    simp at hi
    simp only [List.getElem_pmap, List.getElem_range]
    have h := (key i hi).choose_spec
    exact ⟨(congrArg w.cell? (Mem.add_plain b o i)).symm.trans h.1, h.2⟩
end
end Go.Proofs.YtonmgcfnhbfpgaaDoor
