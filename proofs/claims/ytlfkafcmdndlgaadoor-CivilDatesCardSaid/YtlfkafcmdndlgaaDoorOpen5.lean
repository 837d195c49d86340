import Derived.Test.YtlfkafcmdndlgaaDoorMem
import Derived.OpenShut
import Derived.Lib.SmallJoins
namespace Go.Proofs.YtlfkafcmdndlgaaDoor
open Go.ChangeShapes Go.WideShapes Go.ChangeAt Go.RowKit Go.Joins Go.Deep

/-- A struct of three ints, by value. -/
theorem date_of_trod {H : Type} {enc : TypeId × Value → H} {P : Program} {W : World} {base b0 : Nat} {sp : Nat → Bool} {held : Bool} {t : TypeId} {f0 f1 f2 : Field} {v : Value} {d : DataW H} {p : List MemPlace} {r : Reach}
    (hs : P.underlying t = some (.struct #[f0, f1, f2])) (hone : oneCellFields P #[f0, f1, f2] = true) (hC : P.cellsOf t = 3)
    (e0 : P.underlying f0.type = some (.int .i64)) (e1 : P.underlying f1.type = some (.int .i64)) (e2 : P.underlying f2.type = some (.int .i64))
    (hv : Value.okWide P W r b0 t v) (h : DataW.Trod enc P W base sp held t v d p) :
    ∃ x y z : Int, v = .agg #[.int .i64 x, .int .i64 y, .int .i64 z] ∧ ((Lit.int .i64 x).wf = true ∧ (Lit.int .i64 y).wf = true ∧ (Lit.int .i64 z).wf = true) := by
  obtain ⟨v0, v1, v2, y0, y1, y2, n, rfl, _, _, h0, h1, h2⟩ := open_agg3 hs hone hC hv h
  obtain ⟨a, q0, _, w0⟩ := DataW.trod_int e0 h0
  obtain ⟨b, q1, _, w1⟩ := DataW.trod_int e1 h1
  obtain ⟨c, q2, _, w2⟩ := DataW.trod_int e2 h2
  injection q0 with q0; injection q1 with q1; injection q2 with q2
  exact ⟨a, b, c, by rw [q0, q1, q2], w0, w1, w2⟩
end Go.Proofs.YtlfkafcmdndlgaaDoor
