import Derived.Test.YtonmgcfnhbfpgaaDoorW3
import Derived.Lib.SlBytesConst
namespace Go.Proofs.YtonmgcfnhbfpgaaDoor
open Go.RowKit Mem

theorem rd_lit (w : World) (l : List UInt8) (cs : Array Value) (hc : cs = bcs l) (h : l.length ≤ 100000) (fr : Nat × Nat := (0, 0)) : Rd (w.alloc (.cells cs 5 fr)) (w.alloc (.cells cs 5 fr)).heap.size (some ⟨w.heap.size, 0, none⟩) l.length l := by
  subst hc
  exact Rd.lit w l 5 _ (by rw [size_alloc']; omega) (by unfold maxLen; omega) fr

/-- Check of a list of parts that the call has just made. -/
theorem Check_new (w : World) (ps : List Part) (cs : Array Value) (n : Nat) (hn : n = ps.length) (hc : cs = (ps.map Part.v).toArray) (hl : ps.length ≤ 1000) (hw : Tab w) (hp : ∀ p, p ∈ ps → Rd w w.heap.size p.A p.c p.l) (m : Nat) (hm : Crc.check (flat ps) = m) :
    Calls Tryd.prog 8 #[.slice (some ⟨w.heap.size, 0, none⟩) n n] (w.alloc (.cells cs 23)) fun e w' => e = .returned (.int .u32 (m : Int)) ∧ w.alloc (.cells cs 23) = w' := by
  subst hm
  have h := Pts.new w ps 23 n cs hn hc hl hp
  subst hn
  exact Check_any _ _ ps _ (hw.below ((Below.refl w.heap.size w).alloc (Nat.le_refl _) _) hw.1) (by rw [size_alloc']; exact h)

/-- 123456789, as text. -/
def nine : List UInt8 := [49, 50, 51, 52, 53, 54, 55, 56, 57]
theorem check_nine : Crc.check (flat [⟨none, 0, nine⟩]) = 3808858755 := by kernel_rfl
theorem check_none : Crc.check (flat []) = 0 := by kernel_rfl
theorem Tab.alloc {w : World} (h : Tab w) (o : Obj) : Tab (w.alloc o) := h.below ((Below.refl w.heap.size w).alloc (Nat.le_refl _) _) h.1
theorem below_two (w : World) (o p : Obj) : Below w.heap.size w ((w.alloc o).alloc p) :=
  ((Below.refl _ w).alloc (Nat.le_refl _) o).alloc (by rw [size_alloc']; omega) p

set_option maxHeartbeats 1000000 in
theorem goes_any (w : World) (hw : Tab w) : Calls Tryd.prog 10 #[] w fun e w' => e = .returned (.bool true) ∧ Below w.heap.size w w' := by
  have kc := fun (w : World) (C : Array Value) (n c : Nat) => Lib.run_convert_bytes_const (P := Tryd.prog) w 23 5 C n c Tryd.underlying23 Tryd.underlying5
  have hr := rd_lit w nine #[.int .u8 49, .int .u8 50, .int .u8 51, .int .u8 52, .int .u8 53, .int .u8 54, .int .u8 55, .int .u8 56, .int .u8 57] rfl (by decide) (9, 10)
  have hc := Check_new (w.alloc (.cells #[.int .u8 49, .int .u8 50, .int .u8 51, .int .u8 52, .int .u8 53, .int .u8 54, .int .u8 55, .int .u8 56, .int .u8 57] 5 (9, 10))) [⟨some ⟨w.heap.size, 0, none⟩, 9, nine⟩] #[.slice (some ⟨w.heap.size, 0, none⟩) 9 9] 1 rfl rfl (by simp) (hw.alloc _) (fun p hp => by obtain rfl := List.mem_singleton.1 hp; exact hr) 3808858755 check_nine
  rw [size_alloc'] at hc
  have HC := Lib.hid hc
  have HB := Lib.hid (below_two w (.cells #[.int .u8 49, .int .u8 50, .int .u8 51, .int .u8 52, .int .u8 53, .int .u8 54, .int .u8 55, .int .u8 56, .int .u8 57] 5 (9, 10)) (.cells #[.slice (some ⟨w.heap.size, 0, none⟩) 9 9] 23))
  have HW := Lib.hid hw
  clear hc hr hw
  go_enter Tryd.func10, Tryd.ntmps10
  go_wp2_with fail
  refine HC.out.mono ?_
  rintro e w1 ⟨rfl, rfl⟩
  clear HC
  go_wp2_with fail
  refine (Check_any none 0 [] _ (HW.out.below HB.out HW.out.1) (Pts.nil _ _)).mono ?_
  rintro e w1 ⟨rfl, rfl⟩
  rw [check_none]
  go_wp2_with fail
  go_ret
  exact ⟨rfl, HB.out⟩
end Go.Proofs.YtonmgcfnhbfpgaaDoor
