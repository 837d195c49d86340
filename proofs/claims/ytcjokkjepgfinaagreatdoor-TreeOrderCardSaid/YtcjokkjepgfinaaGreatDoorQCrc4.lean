import Derived.Test.YtcjokkjepgfinaaGreatDoorQCrc2
import Derived.Laws.BytesArg
import Derived.Laws.Strings
set_option linter.unusedVariables false
set_option linter.unusedSimpArgs false
namespace Go.Proofs.YtcjokkjepgfinaaGreatDoor
open Go.RowKit Mem
theorem rd_litc (w : World) (l : List UInt8) (cs : Array Value) (hc : cs = bcs l) (h : l.length ≤ 100000) (fr : Nat × Nat := (0, 0)) : Rd (w.alloc (.cells cs 5 fr)) (w.alloc (.cells cs 5 fr)).heap.size (some ⟨w.heap.size, 0, none⟩) l.length l := by
  subst hc
  exact Rd.lit w l 5 _ (by rw [size_alloc']; omega) (by unfold maxLen; omega) fr
theorem Check_new (w : World) (ps : List Part) (cs : Array Value) (n : Nat) (hn : n = ps.length) (hc : cs = (ps.map Part.v).toArray) (hl : ps.length ≤ 1000) (hw : Tab w) (hp : ∀ p, p ∈ ps → Rd w w.heap.size p.A p.c p.l) (m : Nat) (hm : Crc.check (flat ps) = m) :
    Calls Tryz.prog 141 #[.slice (some ⟨w.heap.size, 0, none⟩) n n] (w.alloc (.cells cs 32)) fun e w' => e = .returned (.int .u32 (m : Int)) ∧ w.alloc (.cells cs 32) = w' := by
  subst hm
  have h := Pts.new w ps 32 n cs hn hc hl hp
  subst hn
  exact Check_any _ _ ps _ (hw.below ((Below.refl w.heap.size w).alloc (Nat.le_refl _) _) hw.1) (by rw [size_alloc']; exact h)
theorem Tab.alloc {w : World} (h : Tab w) (o : Obj) : Tab (w.alloc o) := h.below ((Below.refl w.heap.size w).alloc (Nat.le_refl _) _) h.1
theorem below_two (w : World) (o p : Obj) : Below w.heap.size w ((w.alloc o).alloc p) :=
  ((Below.refl _ w).alloc (Nat.le_refl _) o).alloc (by rw [size_alloc']; omega) p
theorem own_lt {w : World} {base g n c : Nat} {l : List UInt8} (h : Own 5 w base (.slice (some ⟨g, 0, none⟩) n c) l) : base ≤ g ∧ g < w.heap.size := World.ownsRow.lt h g rfl
def stc (l : List UInt8) : ByteArray := ⟨l.toArray⟩
theorem flat_app (a b : List Part) : flat (a ++ b) = flat a ++ flat b := by unfold flat; rw [List.map_append, List.flatten_append]
end Go.Proofs.YtcjokkjepgfinaaGreatDoor
