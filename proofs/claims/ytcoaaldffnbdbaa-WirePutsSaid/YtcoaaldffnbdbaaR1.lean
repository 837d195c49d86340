import Derived.Test.YtcoaaldffnbdbaaL8
import Derived.Deep.QuietTactic
import Derived.BigQuiet
namespace Go.Proofs.Ytcoaaldffnbdbaa
open Go.RowKit Mem

set_option maxHeartbeats 400000 in
theorem Value_any (A : Option Addr) (c n : Nat) (l : List UInt8) (w : World) (hl : Rd w w.heap.size A c l) (he : l.length = n) (hn : n ≤ 8) :
    Calls Try.prog 31 #[.slice A n c] w fun e w' => e = .returned (.int .u64 (val l : Int)) ∧ w = w' := by
  subst he
  by_cases h0 : 0 < l.length
  · obtain ⟨b, o, rfl, _, hc⟩ := hl.2.2.2 h0
    go_enter Try.func31, Try.ntmps31
    go_wp2
    go_loop [4, 3] (fun i v => ∃ k : Nat, k ≤ l.length ∧ i = .int .i64 k ∧ v = .int .u64 (val (l.take k) : Int)) (fun i _ => l.length - (intOf i).toNat)
    case atStart => exact ⟨0, Nat.zero_le _, rfl, by simp [val]⟩
    case round =>
      obtain ⟨k, hk, rfl, rfl⟩ := hrel
      by_cases hlt : k < l.length
      · have hcell := hc k hlt
        have hs := Lib.hid (val_step l k hlt hn)
        go_wp2
        go_round
        case rel => exact ⟨k + 1, by omega, by go_num, by rw [hs.out]⟩
        case measure => simp [intOf]; omega
      · obtain rfl : k = l.length := by omega
        go_wp2
        go_ret
        exact ⟨by simp, rfl⟩
  · have e : l = [] := List.eq_nil_of_length_eq_zero (by omega)
    subst e
    go_enter Try.func31, Try.ntmps31
    go_wp2
    refine wp_loop_rounds 1 ?_
    rw [rounds_succ]
    go_wp2
    go_ret
    exact ⟨by simp [val], rfl⟩

/-- The document's reader at block g: its bytes, its place, whether it is spoilt; what it reads lies below B. -/
def RefS (w : World) (g B : Nat) (s : St) : Prop :=
  B ≤ g ∧ ∃ (A : Option Addr) (c : Nat) (l0 : List UInt8) (p : Nat), w.heap[g]? = some (.cells #[.slice A l0.length c, .int .i64 (p : Int), .bool s.bad] 37 (0, 0)) ∧ p ≤ l0.length ∧ s.l = l0.drop p ∧ Rd w B A c l0 ∧ l0.length ≤ 1000000

theorem blk_cell {w : World} {g : Nat} {cs : Array Value} {t : TypeId} (h : w.heap[g]? = some (.cells cs t (0, 0))) (i : Nat) : w.cell? ⟨g, i, none⟩ = cs[i]? := by simp [World.cell?, h]
theorem blk_free {w : World} {g : Nat} {cs : Array Value} {t : TypeId} (h : w.heap[g]? = some (.cells cs t (0, 0))) (i : Nat) : w.frozen? ⟨g, i, none⟩ = false := by simp [World.frozen?, h]
theorem blk_set {w : World} {g : Nat} {cs : Array Value} {t : TypeId} (h : w.heap[g]? = some (.cells cs t (0, 0))) (i : Nat) (u : Value) : (w.setCell ⟨g, i, none⟩ u).heap[g]? = some (.cells (cs.setIfInBounds i u) t (0, 0)) := by
  simp [World.setCell, Array.getElem?_modify, h]

theorem grownBy_drewN (w : World) (n : Nat) (r : Option Nat) : w.grownBy (w.drewN n) r := ⟨rfl, rfl, rfl, Nat.le_refl _, fun _ _ _ => rfl⟩
set_option maxHeartbeats 2000000 in
theorem refTake_any (g B : Nat) (n : Nat) (s : St) (w : World) (h : RefS w g B s) (hn64 : n < 4294967296) :
    Calls Try.prog 32 #[.pointer (some ⟨g, 0, none⟩), .int .u64 n] w fun e w' => ∃ A c, e = .returned (.slice A (s.bytes n).length c) ∧ Rd w' B A c (s.bytes n) ∧ RefS w' g B (s.after n) ∧ w.grownBy w' (some g) := by
  obtain ⟨l, bad⟩ := s
  obtain ⟨hB, A, c, l0, p, hh, hp, hl, hr, hmax⟩ := h
  have c0 := blk_cell hh 0
  have c1 := blk_cell hh 1
  have c2 := blk_cell hh 2
  have f1 := blk_free hh 1
  have f2 := blk_free hh 2
  simp only [List.getElem?_toArray, List.getElem?_cons_zero, List.getElem?_cons_succ] at c0 c1 c2
  have HH := Lib.hid hh
  have HR := Lib.hid hr
  have HL := Lib.hid hl
  have hll : l.length = l0.length - p := by rw [show l = l0.drop p from hl]; simp
  clear hh hr hl
  cases bad
  · by_cases hs : l.length < n
    · have hlt : ((l0.length : Int) - (p : Int)) < (n : Int) := by omega
      have hge : 0 ≤ ((l0.length : Int) - (p : Int)) := by omega
      have hsm : ((l0.length : Int) - (p : Int)) ≤ 1000000 := by omega
      have HX := Lib.hid hll
      clear hll
      go_enter Try.func32, Try.ntmps32
      go_wp2_with fail
      go_quiet (fail)
      go_wp2_with fail
      go_ret
      have hb : (⟨l, false⟩ : St).bytes n = [] := by simp [St.bytes, hs]
      have ha : (⟨l, false⟩ : St).after n = ⟨l, true⟩ := by simp [St.after, hs]
      rw [hb, ha]
      exact ⟨none, 0, rfl, Rd.nil _ _, ⟨hB, A, c, l0, p, blk_set (by exact HH.out) 2 _, hp, HL.out, HR.out.keep fun q hq => World.cell?_setCell_other _ _ q _ (fun e => by subst e; simp at hq; omega), hmax⟩, grownBy_trans (grownBy_drewN w _ _) (only_set g 2 _)⟩
    · have hlt : ¬ ((l0.length : Int) - (p : Int)) < (n : Int) := by omega
      have hge : 0 ≤ ((l0.length : Int) - (p : Int)) := by omega
      have hsm : ((l0.length : Int) - (p : Int)) ≤ 1000000 := by omega
      have hsum : (p : Int) + (n : Int) ≤ (l0.length : Int) := by omega
      have hlc := HR.out.1
      have hcm := HR.out.2.1
      unfold maxLen at hcm
      have hb : (⟨l, false⟩ : St).bytes n = (l0.drop p).take n := by simp [St.bytes, hs]; rw [show l = l0.drop p from HL.out]
      have ha : (⟨l, false⟩ : St).after n = ⟨l0.drop (p + n), false⟩ := by rw [after_ok _ _ hs, show l = l0.drop p from HL.out, List.drop_drop]
      have HX := Lib.hid hll
      have Hb := Lib.hid hb
      have Ha := Lib.hid ha
      clear hll hb ha
      by_cases h0 : 0 < l0.length
      · obtain ⟨b, o, rfl, hbo, hc⟩ := HR.out.2.2.2 h0
        clear hc
        go_enter Try.func32, Try.ntmps32
        go_wp2_with fail
        go_quiet (fail)
        go_wp2_with fail
        go_quiet (fail)
        go_wp2_with fail
        all_goals
          have hlen : ((l0.drop p).take n).length = n := by simp; omega
          have hkeep : ∀ q, ∀ u, ∀ x : Addr, x.block < B → ((w.drewN q).setCell ⟨g, 1, none⟩ u).cell? x = w.cell? x := fun q u x hx => World.cell?_setCell_other _ _ x _ (fun e => by subst e; simp at hx; omega)
          have hrest : ∀ q, RefS ((w.drewN q).setCell ⟨g, 1, none⟩ (.int .i64 ((p : Int) + (n : Int)))) g B ⟨l0.drop (p + n), false⟩ := fun q =>
            ⟨hB, _, c, l0, p + n, blk_set (by exact HH.out) 1 _, by omega, rfl, HR.out.keep (hkeep q _), hmax⟩
          go_ret
          rw [Hb.out, Ha.out]
        · have hn0 : n = 0 := by omega
          refine ⟨some ⟨b, o, none⟩, 0, by rw [hlen]; rfl, ?_, hrest _, grownBy_trans (grownBy_drewN w _ _) (only_set g 1 _)⟩
          subst hn0
          rw [List.take_zero]
          exact Rd.empty _ _ (Nat.zero_le _) (by simp)
        · exact ⟨some ⟨b, o + p, none⟩, c - p, by rw [hlen]; rfl, ((HR.out.drop p hp).take n).keep (hkeep _ _), hrest _, grownBy_trans (grownBy_drewN w _ _) (only_set g 1 _)⟩
      · have hz : l0 = [] := List.eq_nil_of_length_eq_zero (by omega)
        subst hz
        obtain rfl : p = 0 := by simpa using hp
        obtain rfl : n = 0 := by simp at hsum; omega
        clear h0
        rcases A with _ | ⟨b, o, sp⟩
        · have hcz := HR.out.2.2.1 rfl
          subst hcz
          go_enter Try.func32, Try.ntmps32
          go_wp2_with fail
          go_quiet (fail)
          go_wp2_with fail
          go_quiet (fail)
          go_wp2_with fail
          go_ret
          rw [Hb.out, Ha.out]
          exact ⟨_, _, rfl, Rd.empty _ _ HR.out.2.1 (by simp), ⟨hB, _, _, [], 0, blk_set (by exact HH.out) 1 _, by simp, rfl, HR.out.keep fun q hq => World.cell?_setCell_other _ _ q _ (fun e => by subst e; simp at hq; omega), by simp⟩, grownBy_trans (grownBy_drewN w _ _) (only_set g 1 _)⟩
        · go_enter Try.func32, Try.ntmps32
          go_wp2_with fail
          go_quiet (fail)
          go_wp2_with fail
          go_quiet (fail)
          go_wp2_with fail
          go_ret
          rw [Hb.out, Ha.out]
          exact ⟨_, _, rfl, Rd.empty _ _ HR.out.2.1 (by simp), ⟨hB, _, _, [], 0, blk_set (by exact HH.out) 1 _, by simp, rfl, HR.out.keep fun q hq => World.cell?_setCell_other _ _ q _ (fun e => by subst e; simp at hq; omega), by simp⟩, grownBy_trans (grownBy_drewN w _ _) (only_set g 1 _)⟩
  · have hb : (⟨l, true⟩ : St).bytes n = [] := by simp [St.bytes]
    have ha : (⟨l, true⟩ : St).after n = ⟨l, true⟩ := by simp [St.after]
    have HX := Lib.hid hll
    have Hb := Lib.hid hb
    have Ha := Lib.hid ha
    clear hll hb ha
    go_enter Try.func32, Try.ntmps32
    go_wp2_with fail
    go_quiet (fail)
    go_wp2_with fail
    go_ret
    rw [Hb.out, Ha.out]
    exact ⟨none, 0, rfl, Rd.nil _ _, ⟨hB, A, c, l0, p, blk_set (by exact HH.out) 2 _, hp, HL.out, HR.out.keep fun q hq => World.cell?_setCell_other _ _ q _ (fun e => by subst e; simp at hq; omega), hmax⟩, grownBy_trans (grownBy_drewN w _ _) (only_set g 2 _)⟩
end Go.Proofs.Ytcoaaldffnbdbaa
