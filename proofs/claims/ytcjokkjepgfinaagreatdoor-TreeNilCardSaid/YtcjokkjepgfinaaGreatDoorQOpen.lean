import Derived.Test.YtcjokkjepgfinaaGreatDoorQMem
import Derived.Deep.Slices
import Derived.Deep.Fields
import Derived.ChangeSame
import Derived.ProofKit
set_option linter.unusedVariables false
set_option linter.unusedSimpArgs false
namespace Go.Proofs.YtcjokkjepgfinaaGreatDoor.Mem
open Go.RowKit Go.ChangeShapes Go.WideShapes Go.Deep
section
variable {H : Type} {enc : TypeId × Value → H} {P : Program} {w : World} {base : Nat} {spare : Nat → Bool} {held : Bool}
theorem block_lt {w : World} {a : Addr} {v : Value} (h : w.cell? a = some v) : a.block < w.heap.size := by
  rcases Nat.lt_or_ge a.block w.heap.size with h' | h'
  · exact h'
  · simp [World.cell?, Array.getElem?_eq_none h'] at h
theorem add_plain (b o i : Nat) : (⟨b, o, none⟩ : Addr).add i = ⟨b, o + i, none⟩ := by unfold Addr.add; split <;> simp_all
theorem rd_of_trod {t e : TypeId} {A : Option Addr} {len cap : Nat} {d : DataW H} {p : List MemPlace} (ht : P.underlying t = some (.slice e)) (he : P.underlying e = some (.int .u8)) (hc : P.cellsOf e = 1)
    (h : DataW.Trod enc P w base spare held t (.slice A len cap) d p) : ∃ l : List UInt8, l.length = len ∧ Rd w w.heap.size A cap l := by
  obtain ⟨fuel, hf⟩ := h
  rcases open_ints ht he hc hf with ⟨hcs, _⟩ | ⟨a, len', cap', zs, hcs, _, hl, hm, hz, _, hcell, hwz⟩
  · simp [Value.cells] at hcs
    obtain ⟨rfl, rfl, rfl⟩ := hcs
    exact ⟨[], rfl, Rd.nil _ _⟩
  · simp [Value.cells] at hcs
    obtain ⟨rfl, rfl, rfl⟩ := hcs
    have hzl : len ≤ zs.length := by rw [hz]; split <;> omega
    refine ⟨(zs.take len).map fun n => UInt8.ofNat n.toNat, by simp; omega, by simp; omega, hm, fun e => (by cases e), fun hp => ?_⟩
    simp at hp
    have h0 := hcell 0 (by omega)
    obtain ⟨b, o, sp⟩ := a
    have hsp : sp = none := by simpa [Addr.add] using World.cell?_spot h0
    subst hsp
    refine ⟨b, o, rfl, by rw [add_plain] at h0; exact block_lt h0, fun i hi => ?_⟩
    simp at hi
    have hci := hcell i (by omega)
    rw [add_plain] at hci
    rw [hci]
    have hw := hwz (zs.getD i 0) (by rw [List.getD_eq_getElem?_getD, List.getElem?_eq_getElem (by omega)]; exact List.getElem_mem _)
    have hb := bounds_u8 hw
    simp only [List.getElem_map, List.getElem_take, UInt8.toNat_ofNat']
    have e1 : zs.getD i 0 = zs[i]'(by omega) := by rw [List.getD_eq_getElem?_getD, List.getElem?_eq_getElem (by omega)]; rfl
    rw [e1] at hb ⊢
    congr 2
    omega
def fieldOk (P : Program) (t : TypeId) (v : Value) : Prop :=
  match P.underlying t with
  | some (.int k) => ∃ x, v = .int k x ∧ (Lit.int k x).wf = true
  | some .string => ∃ s, v = .string s ∧ s.size ≤ maxLen
  | some .bool => ∃ b, v = .bool b
  | _ => True
def Structs (P : Program) (w : World) (B : Nat) (fs : Array Field) (A : Option Addr) (len cap : Nat) (f : Nat → Nat → Value) : Prop :=
  len ≤ cap ∧ cap ≤ maxLen ∧ (0 < len → ∃ b o, A = some ⟨b, o, none⟩ ∧ b < B ∧ ∀ i j fld, i < len → fs[j]? = some fld → w.cell? ⟨b, o + (i * fs.size + j), none⟩ = some (f i j) ∧ fieldOk P fld.type (f i j))
theorem Structs.below {w w' : World} {B : Nat} {fs : Array Field} {A : Option Addr} {len cap : Nat} {f : Nat → Nat → Value} (h : Structs P w B fs A len cap f) (hb : Below B w w') : Structs P w' B fs A len cap f :=
  ⟨h.1, h.2.1, fun hp => by
    obtain ⟨b, o, e, hlt, hc⟩ := h.2.2 hp
    exact ⟨b, o, e, hlt, fun i j fld hi hj => ⟨(hb.cell (p := ⟨b, o + (i * fs.size + j), none⟩) hlt).trans (hc i j fld hi hj).1, (hc i j fld hi hj).2⟩⟩⟩
end
end Go.Proofs.YtcjokkjepgfinaaGreatDoor.Mem
