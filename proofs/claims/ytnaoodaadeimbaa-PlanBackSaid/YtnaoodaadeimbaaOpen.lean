import Derived.Test.YtnaoodaadeimbaaMem
import Derived.Deep.Slices
import Derived.Deep.Fields
import Derived.ChangeSame
import Derived.ProofKit
namespace Go.Proofs.Ytnaoodaadeimbaa.Mem
open Go.RowKit Go.ChangeShapes Go.WideShapes Go.Deep
section
variable {H : Type} {enc : TypeId × Value → H} {P : Program} {w : World} {base : Nat} {spare : Nat → Bool} {held : Bool}

theorem block_lt {w : World} {a : Addr} {v : Value} (h : w.cell? a = some v) : a.block < w.heap.size := by
  rcases Nat.lt_or_ge a.block w.heap.size with h' | h'
  · exact h'
  · simp [World.cell?, Array.getElem?_eq_none h'] at h
theorem add_plain (b o i : Nat) : (⟨b, o, none⟩ : Addr).add i = ⟨b, o + i, none⟩ := by unfold Addr.add; split <;> simp_all

/-- A []byte that came in, as bytes. -/
theorem rd_of_trod {t e : TypeId} {A : Option Addr} {len cap : Nat} {d : DataW H} {p : List MemPlace} (ht : P.underlying t = some (.slice e)) (he : P.underlying e = some (.int .u8)) (hc : P.cellsOf e = 1)
    (h : DataW.Trod enc P w base spare held t (.slice A len cap) d p) : ∃ l : List UInt8, l.length = len ∧ Rd w w.heap.size A cap l := by
  obtain ⟨fuel, hf⟩ := h
  rcases open_ints ht he hc hf with ⟨hcs, _⟩ | ⟨a, len', cap', zs, hcs, _, hl, hm, hz, _, hcell, hwz⟩
  · simp [Value.cells] at hcs
    obtain ⟨rfl, rfl, rfl⟩ := hcs
    exact ⟨[], rfl, Rd.nil _ _⟩
  · simp [Value.cells] at hcs
    obtain ⟨rfl, rfl, rfl⟩ := hcs
    have hzl : len ≤ zs.length := by rw [hz]; split <;> omega
    refine ⟨(zs.take len).map fun n => UInt8.ofNat n.toNat, by simp; omega, by simp; omega, hm, fun e => (by cases e), fun hp => ?_⟩
    simp at hp
    have h0 := hcell 0 (by omega)
    obtain ⟨b, o, sp⟩ := a
    have hsp : sp = none := by simpa [Addr.add] using World.cell?_spot h0
    subst hsp
    refine ⟨b, o, rfl, by rw [add_plain] at h0; exact block_lt h0, fun i hi => ?_⟩
    simp at hi
    have hci := hcell i (by omega)
    rw [add_plain] at hci
    rw [hci]
    have hw := hwz (zs.getD i 0) (by rw [List.getD_eq_getElem?_getD, List.getElem?_eq_getElem (by omega)]; exact List.getElem_mem _)
    have hb := bounds_u8 hw
    simp only [List.getElem_map, List.getElem_take, UInt8.toNat_ofNat']
    have e1 : zs.getD i 0 = zs[i]'(by omega) := by rw [List.getD_eq_getElem?_getD, List.getElem?_eq_getElem (by omega)]; rfl
    rw [e1] at hb ⊢
    congr 2
    omega

/-- What a field that is a number, a text or a bool may hold. -/
def fieldOk (P : Program) (t : TypeId) (v : Value) : Prop :=
  match P.underlying t with
  | some (.int k) => ∃ x, v = .int k x ∧ (Lit.int k x).wf = true
  | some .string => ∃ s, v = .string s ∧ s.size ≤ maxLen
  | some .bool => ∃ b, v = .bool b
  | _ => True

/-- A slice of structs whose fields are of one cell each, that came in: f i j is field j of element i. -/
def Structs (P : Program) (w : World) (B : Nat) (fs : Array Field) (A : Option Addr) (len cap : Nat) (f : Nat → Nat → Value) : Prop :=
  len ≤ cap ∧ cap ≤ maxLen ∧ (0 < len → ∃ b o, A = some ⟨b, o, none⟩ ∧ b < B ∧ ∀ i j fld, i < len → fs[j]? = some fld → w.cell? ⟨b, o + (i * fs.size + j), none⟩ = some (f i j) ∧ fieldOk P fld.type (f i j))
theorem Structs.below {w w' : World} {B : Nat} {fs : Array Field} {A : Option Addr} {len cap : Nat} {f : Nat → Nat → Value} (h : Structs P w B fs A len cap f) (hb : Below B w w') : Structs P w' B fs A len cap f :=
  ⟨h.1, h.2.1, fun hp => by
    obtain ⟨b, o, e, hlt, hc⟩ := h.2.2 hp
    exact ⟨b, o, e, hlt, fun i j fld hi hj => ⟨(hb.cell (p := ⟨b, o + (i * fs.size + j), none⟩) hlt).trans (hc i j fld hi hj).1, (hc i j fld hi hj).2⟩⟩⟩

theorem fieldOk_of {n : Nat} {t : TypeId} {v : Value} {x : DataW H × List MemPlace} (h : DataW.trod enc P w base spare held n t [v] = some x) : fieldOk P t v := by
  unfold fieldOk
  split
  · rename_i k hk
    obtain ⟨x, e, _, hw⟩ := DataW.trod_int hk h
    simp at e
    exact ⟨x, e, hw⟩
  · rename_i hk
    obtain ⟨s, e, _, hw⟩ := DataW.trod_string hk h
    simp at e
    exact ⟨s, e, hw⟩
  · rename_i hk
    obtain ⟨b, e, _⟩ := DataW.trod_bool hk h
    simp at e
    exact ⟨b, e⟩
  · trivial

theorem structs_of_trod {t e : TypeId} {fs : Array Field} {A : Option Addr} {len cap : Nat} {d : DataW H} {p : List MemPlace} (ht : P.underlying t = some (.slice e)) (he : P.underlying e = some (.struct fs)) (hone : oneCellFields P fs = true) (hC : P.cellsOf e = fs.size) (h0 : 0 < fs.size)
    (h : DataW.Trod enc P w base spare held t (.slice A len cap) d p) : ∃ f : Nat → Nat → Value, Structs P w w.heap.size fs A len cap f := by
  obtain ⟨fuel, hf⟩ := h
  rcases open_slice ht hf with ⟨hcs, _⟩ | ⟨a, len', cap', m, n, D, Pl, hcs, _, hl, hm, hmm, _, hi⟩
  · simp [Value.cells] at hcs
    obtain ⟨rfl, rfl, rfl⟩ := hcs
    exact ⟨fun _ _ => .tuple #[], by omega, by unfold maxLen; omega, fun h => by omega⟩
  · simp [Value.cells] at hcs
    obtain ⟨rfl, rfl, rfl⟩ := hcs
    refine ⟨fun i j => (w.cell? (a.add (i * fs.size + j))).getD (.tuple #[]), hl, hm, fun hp => ?_⟩
    have hle : len ≤ m := by rw [hmm]; split <;> omega
    have key : ∀ i j fld, i < len → fs[j]? = some fld → ∃ v y, w.cell? (a.add (i * fs.size + j)) = some v ∧ DataW.trod enc P w base spare held y fld.type [v] ≠ none := by
      intro i j fld him hj
      obtain ⟨cs', hc, ht'⟩ := hi i (by omega)
      rw [hC] at hc
      obtain ⟨ys, n', _, _, hlen, hyl, hfld⟩ := DataW.trod_struct he ht'
      obtain ⟨_, hcl, hat⟩ := World.cells?_some hc
      obtain ⟨ho, hk⟩ := hone_of hone j fld hj
      have hjl : j < fs.size := (Array.getElem?_eq_some_iff.1 hj).1
      have hcell := hat j hjl
      have h1 := hfld j fld hj
      rw [ho, hk] at h1
      have hone' : (cs'.drop j).take 1 = [cs'[j]'(by omega)] := by
        rw [List.drop_eq_getElem_cons (by omega)]
        rfl
      rw [hone'] at h1
      refine ⟨cs'[j]'(by omega), n', ?_, ?_⟩
      · rw [← Go.Deep.add_add, hcell, List.getElem?_eq_getElem (by omega)]
      · rw [h1, List.getElem?_eq_getElem (by omega)]; simp
    obtain ⟨b, o, sp⟩ := a
    obtain ⟨v0, _, hv0, _⟩ := key 0 0 fs[0] hp (Array.getElem?_eq_getElem h0)
    have hsp : sp = none := by simpa [Addr.add] using World.cell?_spot hv0
    subst hsp
    refine ⟨b, o, rfl, by rw [add_plain] at hv0; exact block_lt hv0, fun i j fld him hj => ?_⟩
    obtain ⟨v, y, hv, ht'⟩ := key i j fld him hj
    simp only [hv, Option.getD_some]
    rw [add_plain] at hv
    refine ⟨hv, ?_⟩
    cases hx : DataW.trod enc P w base spare held y fld.type [v] with
    | none => exact absurd hx ht'
    | some x => exact fieldOk_of hx
end
end Go.Proofs.Ytnaoodaadeimbaa.Mem
