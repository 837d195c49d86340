import Derived.Test.YtnaoodaadeimbaaW5
namespace Go.Proofs.Ytnaoodaadeimbaa
open Go.RowKit Mem

theorem takeCount (g : Nat) (s : St) (w : World) (m : Int) (gm gr : Nat) (h : RdrS w g s) (hm0 : -9223372036854775808 ≤ m) (hm1 : m ≤ 9223372036854775807)
    (h1 : w.cell? ⟨gm, 0, none⟩ = some (.int .i64 m)) (h2 : w.cell? ⟨gr, 0, none⟩ = some (.pointer (some ⟨g, 0, none⟩))) (e1 : gm ≠ g) (e2 : gr ≠ g) (b1 : gm < w.heap.size) (b2 : gr < w.heap.size) :
    Calls Try.prog 43 #[.pointer (some ⟨g, 0, none⟩), .int .u64 8, .func (Fn.func 44) #[] #[.pointer (some ⟨gm, 0, none⟩), .pointer (some ⟨gr, 0, none⟩)]] w fun e w' => ∃ v, e = .returned v ∧ v = .int .i64 (s.count m) ∧ Left w w' g (s.countAfter m) := by
  obtain ⟨l, b⟩ := s
  cases b
  · by_cases hn : l.length < 8
    · refine (take_int_short g 8 _ l w h (by omega)).mono ?_
      rintro e w1 ⟨rfl, rfl⟩
      exact ⟨_, rfl, by simp [St.count, St.num, hn], by simpa [St.countAfter, St.after, hn] using Left.set1 h⟩
    · refine take_int_ok g 8 44 #[.pointer (some ⟨gm, 0, none⟩), .pointer (some ⟨gr, 0, none⟩)] l w _ enter47 h (by omega) ?_
      intro A c w1 hr1 hg hsz hr hs
      have hnum : (⟨l, false⟩ : St).num 8 = val (l.take 8) := by simp [St.num, hn]
      obtain ⟨_, _, _, q1, _, f1, _, _, hglt⟩ := hr1.parts
      have k1 : w1.cell? ⟨gm, 0, none⟩ = some (.int .i64 m) := (World.cell?_of_block (w := w) (hg.block gm b1 (by simpa using e1))).trans h1
      have k2 : w1.cell? ⟨gr, 0, none⟩ = some (.pointer (some ⟨g, 0, none⟩)) := (World.cell?_of_block (w := w) (hg.block gr b2 (by simpa using e2))).trans h2
      refine (calls47 A c g gm gr m (l.take 8) w1 (hr.more (by omega)) (by rw [List.length_take]; omega) hm0 hm1 k1 k2 q1 f1).mono ?_
      rintro e w' ⟨rfl, rfl⟩
      refine ⟨_, rfl, by rw [St.count, hnum], ?_⟩
      have ha := after_ok l 8 hn
      by_cases hc : m < 0 ∨ m < (val (l.take 8) : Int)
      · rw [if_pos hc]
        have hx : (⟨l, false⟩ : St).countAfter m = ⟨l.drop 8, true⟩ := by unfold St.countAfter; rw [hnum, if_pos (.inr (.inr hc)), ha]
        rw [hx]
        exact ⟨hr1.set1 true, grownBy_trans hg (only_set g 1 _)⟩
      · rw [if_neg hc]
        have hx : (⟨l, false⟩ : St).countAfter m = ⟨l.drop 8, false⟩ := by
          unfold St.countAfter; rw [hnum, if_neg (by rintro (h | h | h); · cases h
                                                     · exact hn h
                                                     · exact hc h), ha]
        rw [hx]
        exact ⟨hr1, hg⟩
  · refine (take_int_bad g 8 _ l w h).mono ?_
    rintro e w1 ⟨rfl, rfl⟩
    exact ⟨_, rfl, by simp [St.count, St.num], by simpa [St.countAfter, St.after] using ⟨h, grownBy_refl _ _⟩⟩

theorem RCount_any (g : Nat) (s : St) (w : World) (m : Int) (h : RdrS w g s) (hm0 : -9223372036854775808 ≤ m) (hm1 : m ≤ 9223372036854775807) :
    Calls Try.prog 30 #[.pointer (some ⟨g, 0, none⟩), .int .i64 m] w fun e w' => e = .returned (.int .i64 (s.count m)) ∧ Left w w' g (s.countAfter m) := by
  have hmf : ∀ (fn : Fn) (first cap : Array Value) (w : World), (Instr.makeFunc fn first cap).run Try.prog w = .ok (.func fn first cap) w := fun _ _ _ _ => rfl
  have hlt := h.lt
  have hb : Below w.heap.size w ((w.alloc (Obj.cells #[Value.pointer (some { block := g, off := 0 })] 61)).alloc (Obj.cells #[Value.int IntKind.i64 m] 3)) :=
    ((Below.refl _ w).alloc (Nat.le_refl _) _).alloc (by simp) _
  have hc := Lib.hid (takeCount g s _ m (w.heap.size + 1) w.heap.size (Rdr.below h hb hlt) hm0 hm1 (by rw [cell_of_row _ _ _ _ _ _ (heap_alloc2_new w _ _)]; rfl) (by rw [cell_of_row _ _ _ _ _ _ (heap_alloc2_old w _ _)]; rfl) (by omega) (by omega) (by rw [size_alloc', size_alloc']; omega) (by rw [size_alloc', size_alloc']; omega))
  have HB := Lib.hid hb
  clear h hb
  go_enter Try.func30, Try.ntmps30
  go_wp2_with (go_at_call 43; refine hc.out.mono ?_; rintro e w1 ⟨v1, rfl, rfl, hl⟩)
  go_ret
  exact ⟨rfl, hl.1, grownBy_trans (grownBy_below _ HB.out) hl.2⟩
theorem RCount_nil (w : World) (m : Int) : Calls Try.prog 30 #[.pointer none, .int .i64 m] w fun e w' => e = .returned (.int .i64 0) ∧ Below w.heap.size w w' := by
  have hmf : ∀ (fn : Fn) (first cap : Array Value) (w : World), (Instr.makeFunc fn first cap).run Try.prog w = .ok (.func fn first cap) w := fun _ _ _ _ => rfl
  go_enter Try.func30, Try.ntmps30
  go_wp2_with (go_at_call 43; refine (take_int_nil _ _ _).mono ?_; rintro e w1 ⟨rfl, rfl⟩)
  go_ret
  exact ⟨rfl, ((Below.refl _ w).alloc (Nat.le_refl _) _).alloc (by simp) _⟩

/-- What Done answers. -/
def St.done (s : St) : Int := if s.bad ∨ s.l ≠ [] then 21 else 0
theorem RDone_nil (w : World) : Calls Try.prog 31 #[.pointer none] w fun e w' => e = .returned (.int .i64 21) ∧ w = w' := by
  go_enter Try.func31, Try.ntmps31
  go_wp2
  go_ret
  exact ⟨rfl, rfl⟩
theorem RDone_any (g : Nat) (s : St) (w : World) (h : RdrS w g s) :
    Calls Try.prog 31 #[.pointer (some ⟨g, 0, none⟩)] w fun e w' => e = .returned (.int .i64 s.done) ∧ w = w' := by
  obtain ⟨l, b⟩ := s
  obtain ⟨A, c, h0, h1, f0, f1, hr, hs, hg⟩ := Rdr.parts h
  have hlc := hr.1
  have hcm := hr.2.1
  unfold maxLen at hcm
  clear hr hs
  cases b
  · by_cases hl : l = []
    · subst hl
      go_enter Try.func31, Try.ntmps31
      go_wp2
      go_ret
      exact ⟨rfl, rfl⟩
    · have hp : (0 : Int) < (l.length : Int) := by have := List.length_pos_iff.2 hl; omega
      have hd := Lib.hid (show (⟨l, false⟩ : St).done = 21 by simp [St.done, hl])
      clear hl
      go_enter Try.func31, Try.ntmps31
      go_wp2
      go_ret
      exact ⟨by rw [hd.out]; rfl, rfl⟩
  · go_enter Try.func31, Try.ntmps31
    go_wp2
    go_ret
    exact ⟨rfl, rfl⟩

theorem New_any (A : Option Addr) (c n : Nat) (l : List UInt8) (w : World) (hr : Rd w w.heap.size A c l) (hl : l.length = n) (hn : n ≤ 140737488355328) :
    Calls Try.prog 28 #[.slice A n c] w fun e w' => ∃ g, e = .returned (.pointer (some ⟨g, 0, none⟩)) ∧ w.heap.size ≤ g ∧ RdrS w' g ⟨l, false⟩ ∧ Below w.heap.size w w' := by
  subst hl
  have HR := Lib.hid hr
  clear hr
  go_enter Try.func28, Try.ntmps28
  go_wp2_with (go_at_call 39; refine (clone_any _ _ _ _ _ HR.out rfl hn).mono ?_; rintro e w1 ⟨v1, rfl, hown, hb⟩; obtain ⟨A1, c1, rfl, hr1, hlt1, hs1⟩ := hown.form; have H2 := Lib.hid hr1; have H3 := Lib.hid hb; have H4 := Lib.hid hs1; clear hown hr1 hb hlt1 hs1)
  go_ret
  exact ⟨w1.heap.size, rfl, H3.out.size, ⟨A1, c1, heap_alloc_new w1 _, H2.out.alloc (Nat.le_refl _) _, H4.out⟩, (H3.out.alloc H3.out.size _)⟩
end Go.Proofs.Ytnaoodaadeimbaa
