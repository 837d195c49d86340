import Derived.Test.YtmekdodkpimabaaDoorMem
import Derived.OpenShut
import Derived.Test.YtmekdodkpimabaaDoorOpen
namespace Go.Proofs.YtmekdodkpimabaaDoor
open Go.ChangeShapes Go.WideShapes Go.ChangeAt Go.RowKit Mem

theorem bv_of {x : Int} (h : (Lit.int .u8 x).wf = true) : Value.int .u8 x = bv (UInt8.ofNat x.toNat) := by
  have b := bounds_u8 h
  unfold bv
  rw [UInt8.toNat_ofNat']
  congr 1
  omega
/-- An argument of the type [4]byte. -/
theorem arr4_of_trod {H : Type} {enc : TypeId × Value → H} {P : Program} {W : World} {base b0 : Nat} {sp : Nat → Bool} {held : Bool} {t e : TypeId} {v : Value} {d : DataW H} {p : List MemPlace} {r : Reach}
    (ht : P.underlying t = some (.array 4 e)) (he : P.underlying e = some (.int .u8)) (hce : P.cellsOf e = 1) (hct : P.cellsOf t = 4) (hv : Value.okWide P W r b0 t v) (h : DataW.Trod enc P W base sp held t v d p) :
    ∃ x0 x1 x2 x3 : UInt8, v = .agg #[bv x0, bv x1, bv x2, bv x3] := by
  obtain ⟨cs, rfl, hsz⟩ : ∃ cs, v = .agg cs ∧ cs.size = P.cellsOf t := by
    simp only [Value.okWide, ht] at hv
    obtain ⟨cs, h1, h2, _⟩ := hv
    exact ⟨cs, h1, h2⟩
  rw [hct] at hsz
  obtain ⟨l⟩ := cs
  obtain ⟨c0, c1, c2, c3, rfl⟩ : ∃ c0 c1 c2 c3, l = [c0, c1, c2, c3] := by
    match l, hsz with
    | [c0, c1, c2, c3], _ => exact ⟨c0, c1, c2, c3, rfl⟩
  obtain ⟨fuel, hf⟩ := h
  obtain ⟨xs, m, _, _, _, hl, hx⟩ := DataW.trod_array ht hf
  have key : ∀ i c, i < 4 → [c0, c1, c2, c3][i]? = some c → ∃ x : UInt8, c = bv x := fun i c hi hc => by
    have h1 := hx i hi
    rw [hce, List.getElem?_eq_getElem (by omega)] at h1
    have h2 : ((Value.agg #[c0, c1, c2, c3]).cells.toList.drop (i * 1)).take 1 = [c] := by
      match i, hi with
      | 0, _ | 1, _ | 2, _ | 3, _ => simp at hc; subst hc; simp [Value.cells]
    rw [h2] at h1
    obtain ⟨x, e1, _, wf⟩ := DataW.trod_int he h1
    injection e1 with e1
    exact ⟨_, e1.trans (bv_of wf)⟩
  obtain ⟨x0, e0⟩ := key 0 c0 (by omega) rfl
  obtain ⟨x1, e1⟩ := key 1 c1 (by omega) rfl
  obtain ⟨x2, e2⟩ := key 2 c2 (by omega) rfl
  obtain ⟨x3, e3⟩ := key 3 c3 (by omega) rfl
  exact ⟨x0, x1, x2, x3, by rw [e0, e1, e2, e3]⟩
end Go.Proofs.YtmekdodkpimabaaDoor
