import Derived.Test.YtnaoodaadeimbaaMem
import Derived.Test.YtnaoodaadeimbaaOpen
import Derived.OpenShut
import Derived.Lib.SmallJoins
namespace Go.Proofs.Ytnaoodaadeimbaa.Mem
set_option linter.unusedVariables false
set_option linter.unusedSimpArgs false
open Go.ChangeShapes Go.WideShapes Go.ChangeAt Go.RowKit Go.Joins Go.Deep
section
variable {H : Type} {enc : TypeId × Value → H} {P : Program} {W : World} {base b0 : Nat} {sp : Nat → Bool} {held : Bool} {t : TypeId} {v : Value} {d : DataW H} {p : List MemPlace} {r : Reach}
/-- A struct whose fields are of one cell each, by value: its cells, each read as its field's type. -/
theorem flds_of_trod {fs : Array Field} (hs : P.underlying t = some (.struct fs)) (hone : oneCellFields P fs = true) (hC : P.cellsOf t = fs.size)
    (hv : Value.okWide P W r b0 t v) (h : DataW.Trod enc P W base sp held t v d p) :
    ∃ cs : Array Value, v = .agg cs ∧ cs.size = fs.size ∧ ∀ (j : Nat) (fld : Field), fs[j]? = some fld → ∃ (u : Value) (y : DataW H × List MemPlace) (n : Nat), cs[j]? = some u ∧ DataW.trod enc P W base sp held n fld.type [u] = some y := by
  obtain ⟨cs, rfl, hsz⟩ := okWide_struct hs hv
  obtain ⟨fuel, hf⟩ := h
  obtain ⟨ys, n', _, hx, hlen, hyl, hfld⟩ := DataW.trod_struct hs hf
  refine ⟨cs, rfl, hsz.trans hC, fun j fld hj => ?_⟩
  obtain ⟨ho, hk⟩ := hone_of hone j fld hj
  have hjl : j < fs.size := (Array.getElem?_eq_some_iff.1 hj).1
  have hcl : j < cs.size := by rw [hsz, hC]; exact hjl
  have h1 := hfld j fld hj
  rw [ho, hk] at h1
  have hcells : (Value.agg cs).cells = cs := rfl
  rw [hcells] at h1
  have hone' : (cs.toList.drop j).take 1 = [cs[j]] := by
    rw [List.drop_eq_getElem_cons (by simpa using hcl)]
    simp
  rw [hone'] at h1
  refine ⟨cs[j], ys[j]'(by omega), n', Array.getElem?_eq_getElem hcl, ?_⟩
  rw [h1, List.getElem?_eq_getElem (by omega)]
/-- A slice among them. -/
theorem slice_of_fld {e : TypeId} {u : Value} {y : DataW H × List MemPlace} {n : Nat} (ht : P.underlying t = some (.slice e)) (h : DataW.trod enc P W base sp held n t [u] = some y) : ∃ A len cap, u = .slice A len cap ∧ DataW.Trod enc P W base sp held t (.slice A len cap) y.1 y.2 := by
  have key : ∀ A len cap, u = .slice A len cap → DataW.Trod enc P W base sp held t (.slice A len cap) y.1 y.2 := fun A len cap e => ⟨n, by subst e; exact h⟩
  rcases DataW.trod_slice ht h with ⟨e, _⟩ | ⟨a, len, cap, _, _, _, _, e, _⟩
  · injection e with e _
    exact ⟨none, 0, 0, e, key _ _ _ e⟩
  · injection e with e _
    exact ⟨some a, len, cap, e, key _ _ _ e⟩
/-- A struct of a uint32, five int64 and a slice of structs, by value (api.Plan). -/
theorem plan_of_trod {f0 f1 f2 f3 f4 f5 f6 : Field} {e : TypeId} {ft : Array Field} (hs : P.underlying t = some (.struct #[f0, f1, f2, f3, f4, f5, f6])) (hone : oneCellFields P #[f0, f1, f2, f3, f4, f5, f6] = true) (hC : P.cellsOf t = 7)
    (e0 : P.underlying f0.type = some (.int .u32)) (e1 : P.underlying f1.type = some (.int .i64)) (e2 : P.underlying f2.type = some (.int .i64)) (e3 : P.underlying f3.type = some (.int .i64)) (e4 : P.underlying f4.type = some (.int .i64)) (e5 : P.underlying f5.type = some (.int .i64))
    (e6 : P.underlying f6.type = some (.slice e)) (et : P.underlying e = some (.struct ft)) (hone2 : oneCellFields P ft = true) (hC2 : P.cellsOf e = ft.size) (h02 : 0 < ft.size)
    (hv : Value.okWide P W r b0 t v) (h : DataW.Trod enc P W base sp held t v d p) :
    ∃ (i x1 x2 x3 x4 x5 : Int) (A : Option Addr) (len c : Nat) (f : Nat → Nat → Value), v = .agg #[.int .u32 i, .int .i64 x1, .int .i64 x2, .int .i64 x3, .int .i64 x4, .int .i64 x5, .slice A len c] ∧
      ((Lit.int .u32 i).wf = true ∧ (Lit.int .i64 x1).wf = true ∧ (Lit.int .i64 x2).wf = true ∧ (Lit.int .i64 x3).wf = true ∧ (Lit.int .i64 x4).wf = true ∧ (Lit.int .i64 x5).wf = true) ∧ Structs P W W.heap.size ft A len c f := by
  obtain ⟨cs, rfl, hsz, hf⟩ := flds_of_trod hs hone hC hv h
  have num : ∀ (j : Nat) (fld : Field) (k : IntKind), (#[f0, f1, f2, f3, f4, f5, f6] : Array Field)[j]? = some fld → P.underlying fld.type = some (.int k) → ∃ x : Int, cs[j]? = some (.int k x) ∧ (Lit.int k x).wf = true := fun j fld k hj hu => by
    obtain ⟨u, y, n, hc, ht⟩ := hf j fld hj
    obtain ⟨a, q, _, w⟩ := DataW.trod_int hu ht
    injection q with q _
    exact ⟨a, by rw [hc, q], w⟩
  obtain ⟨i, c0, w0⟩ := num 0 f0 .u32 rfl e0
  obtain ⟨x1, c1, w1⟩ := num 1 f1 .i64 rfl e1
  obtain ⟨x2, c2, w2⟩ := num 2 f2 .i64 rfl e2
  obtain ⟨x3, c3, w3⟩ := num 3 f3 .i64 rfl e3
  obtain ⟨x4, c4, w4⟩ := num 4 f4 .i64 rfl e4
  obtain ⟨x5, c5, w5⟩ := num 5 f5 .i64 rfl e5
  obtain ⟨u, y, n, c6, h6⟩ := hf 6 f6 rfl
  obtain ⟨A, len, cap, rfl, hT⟩ := slice_of_fld e6 h6
  obtain ⟨f, hS⟩ := structs_of_trod e6 et hone2 hC2 h02 hT
  refine ⟨i, x1, x2, x3, x4, x5, A, len, cap, f, ?_, ⟨w0, w1, w2, w3, w4, w5⟩, hS⟩
  congr 1
  apply Array.ext_getElem?
  intro j
  have hcase : j = 0 ∨ j = 1 ∨ j = 2 ∨ j = 3 ∨ j = 4 ∨ j = 5 ∨ j = 6 ∨ 7 ≤ j := by omega
  rcases hcase with rfl | rfl | rfl | rfl | rfl | rfl | rfl | hj
  · rw [c0]; rfl
  · rw [c1]; rfl
  · rw [c2]; rfl
  · rw [c3]; rfl
  · rw [c4]; rfl
  · rw [c5]; rfl
  · rw [c6]; rfl
  · have hs7 : cs.size = 7 := hsz
    rw [Array.getElem?_eq_none (by omega), Array.getElem?_eq_none (by simpa using hj)]
end
end Go.Proofs.Ytnaoodaadeimbaa.Mem
