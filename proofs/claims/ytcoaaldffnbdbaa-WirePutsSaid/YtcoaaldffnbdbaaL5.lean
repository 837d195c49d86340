import Derived.Test.YtcoaaldffnbdbaaL4
import Derived.Test.YtcoaaldffnbdbaaOpen
namespace Go.Proofs.Ytcoaaldffnbdbaa
open Go.RowKit Mem

/-- The takes that came in: what, and how many. -/
def Takes (w : World) (B : Nat) (A : Option Addr) (c : Nat) (ts : List (Int × Int)) : Prop :=
  ts.length ≤ c ∧ c ≤ maxLen ∧ (0 < ts.length → ∃ b o, A = some ⟨b, o, none⟩ ∧ b < B ∧ ∀ i (h : i < ts.length),
    w.cell? ⟨b, o + i * 2, none⟩ = some (.int .u8 ts[i].1) ∧ w.cell? ⟨b, o + i * 2 + 1, none⟩ = some (.int .i64 ts[i].2) ∧ 0 ≤ ts[i].1 ∧ ts[i].1 ≤ 255 ∧ -9223372036854775808 ≤ ts[i].2 ∧ ts[i].2 ≤ 9223372036854775807)
theorem takes_of {fs : Array Field} {w : World} {B : Nat} {A : Option Addr} {n c : Nat} {f : Nat → Nat → Value} (hu : Try.prog.underlying 40 = some (.struct fs)) (h : Structs Try.prog w B fs A n c f) : ∃ ts, ts.length = n ∧ Takes w B A c ts := by
  rw [Try.underlying40] at hu
  injection hu with hu
  injection hu with hu
  subst hu
  have key : ∀ i, i < n → ∃ x y : Int, (∀ b o, A = some ⟨b, o, none⟩ → w.cell? ⟨b, o + i * 2, none⟩ = some (.int .u8 x) ∧ w.cell? ⟨b, o + i * 2 + 1, none⟩ = some (.int .i64 y)) ∧ 0 ≤ x ∧ x ≤ 255 ∧ -9223372036854775808 ≤ y ∧ y ≤ 9223372036854775807 := by
    intro i hi
    obtain ⟨b, o, rfl, _, hc⟩ := h.2.2 (by omega)
    obtain ⟨h0, k0⟩ := hc i 0 _ hi rfl
    obtain ⟨h1, k1⟩ := hc i 1 _ hi rfl
    simp only [fieldOk] at k0
    simp only [fieldOk] at k1
    obtain ⟨x, hx, wx⟩ := k0
    obtain ⟨y, hy, wy⟩ := k1
    have bx := bounds_u8 wx
    have yb := bounds_i64 wy
    refine ⟨x, y, ?_, by omega, by omega, by omega, by omega⟩
    intro b' o' e
    simp at e
    obtain ⟨rfl, rfl⟩ := e
    rw [hx] at h0
    rw [hy] at h1
    exact ⟨h0, h1⟩
  refine ⟨(List.range n).pmap (fun i hi => ((key i hi).choose, (key i hi).choose_spec.choose)) (fun i hi => by simpa using hi), by simp, by simp; exact h.1, h.2.1, fun hp => ?_⟩
  simp at hp
  obtain ⟨b, o, rfl, hb, _⟩ := h.2.2 hp
  refine ⟨b, o, rfl, hb, fun i hi => ?_⟩
  simp at hi
  have hs := (key i hi).choose_spec.choose_spec
  simp only [List.getElem_pmap, List.getElem_range]
  exact ⟨(hs.1 b o rfl).1, (hs.1 b o rfl).2, hs.2⟩
theorem Takes.below {w w' : World} {B : Nat} {A : Option Addr} {c : Nat} {ts : List (Int × Int)} (h : Takes w B A c ts) (hb : Below B w w') : Takes w' B A c ts :=
  ⟨h.1, h.2.1, fun hp => by
    obtain ⟨b, o, e, hlt, hc⟩ := h.2.2 hp
    refine ⟨b, o, e, hlt, fun i hi => ?_⟩
    obtain ⟨h1, h2, h3⟩ := hc i hi
    exact ⟨(hb.cell (p := ⟨b, o + i * 2, none⟩) hlt).trans h1, (hb.cell (p := ⟨b, o + i * 2 + 1, none⟩) hlt).trans h2, h3⟩⟩
end Go.Proofs.Ytcoaaldffnbdbaa
