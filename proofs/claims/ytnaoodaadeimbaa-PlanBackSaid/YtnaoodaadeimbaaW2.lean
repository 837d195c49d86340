import Derived.Test.YtnaoodaadeimbaaRows
import Derived.Test.YtnaoodaadeimbaaMem
import Derived.Test.YtnaoodaadeimbaaW1
import Derived.WalkKit
import Derived.Outline
import Derived.ProofKit
import Derived.LoopTactic
import Derived.WalkSpells
import Derived.Handy
namespace Go.Proofs.Ytnaoodaadeimbaa
open Go.RowKit Mem
theorem byteTy : ByteTy Try.prog 26 5 := by
  refine ⟨Try.underlying26, Try.underlying5, ?_⟩
  have h : (Try.prog.info? 5).map (fun i => (i.zero, i.size, i.bytes)) = some (some (.int .u8 0), 1, 1) := by kernel_rfl
  obtain ⟨i, h1, h2, h3, h4⟩ := info_parts h
  exact ⟨i, h1, h2, h3, h4⟩

set_option maxHeartbeats 1000000 in
theorem grow_any (n : Nat) (w : World) (hn : n ≤ 70368744177664) :
    Calls Try.prog 46 #[.slice none 0 0, .int .i64 n] w fun e w' => ∃ v, e = .returned v ∧ Own 5 w' w.heap.size v [] ∧ Below w.heap.size w w' := by
  obtain ⟨i, hi, hz, hs, hby⟩ := byteTy.info
  by_cases h0 : n = 0
  · subst h0
    go_enter Try.func46, Try.ntmps46
    go_wp2
    go_ret
    exact ⟨_, rfl, Own.nil _ _ _, Below.refl _ _⟩
  · have hold : (Builtin.firstCells i.size 0 (.slice none 0 0)).run Try.prog w.drew = .ok #[] w.drew := by simp [Builtin.firstCells]
    have hrz : ∀ ty, (Builtin.append_ #[26, 3] ty #[.slice none 0 0, .int .i64 (n : Int)]).run Try.prog w = .ok (.slice (some ⟨w.heap.size, 0, none⟩) n (grownCap w n 0 5)) (w.drew.alloc (.cells (bcs (List.replicate (grownCap w n 0 5) 0)) 5)) := fun ty => by
      have h := Lib.run_append_grow_zeros w 26 3 ty 5 i _ .i64 .i64 Try.underlying26 Try.underlying3 hi hz none 0 0 [] hold n (by omega) (by omega) (by omega) (by omega) (by rw [hby]; omega) (by rw [Nat.zero_add]; exact growslice_fits (by omega) (by rw [hby]; omega))
      have hge : n ≤ grownCap w n 0 5 := grownCap_ge w _ _ _
      simp only [Nat.zero_add, Array.empty_append] at h
      rw [h, zeroCells_bytes, zeroCells_bytes, bcs_app, List.replicate_append_replicate, Nat.add_sub_cancel' hge]
    have hGn : n ≤ grownCap w n 0 5 := grownCap_ge w _ _ _
    have hG63 : grownCap w n 0 5 ≤ maxLen := grownCap_le_maxLen w n 0 5 (by unfold maxLen; omega)
    generalize grownCap w n 0 5 = G at hrz hGn hG63
    have hG64 : G ≤ 9223372036854775807 := by unfold maxLen at hG63; omega
    have hpos : (0 : Int) < (n : Int) := by omega
    have HH := Lib.hid (And.intro hG63 hGn)
    clear hold hi hz hs hby hG63 hGn
    go_enter Try.func46, Try.ntmps46
    go_wp2_with (at_builtin; refine Lib.wpList_append_run _ rfl _ _ _ _ rfl _ _ rfl rfl _ _ (hrz _) ?_)
    go_ret
    exact ⟨_, rfl, ⟨rfl, .inr ⟨_, G, _, rfl, Nat.le_refl _, heap_alloc_new w.drew _, Nat.zero_le _, HH.out.1, by simp [bcs], by simp⟩⟩, ((Below.refl _ _).drew).alloc (Nat.le_refl _) _⟩

/-- The parts are there: in the world w, from ⟨g, o⟩ on, each with its cells below B. -/
def AreParts (w : World) (B : Nat) (g o : Nat) (ps : List Part) : Prop :=
  ∀ i (h : i < ps.length), w.cell? ⟨g, o + i, none⟩ = some (.slice ps[i].A ps[i].l.length ps[i].c) ∧ Rd w B ps[i].A ps[i].c ps[i].l

set_option maxHeartbeats 1000000 in
theorem concat_any (g o c : Nat) (ps : List Part) (w : World) (hg : g < w.heap.size) (hp : AreParts w w.heap.size g o ps) (hn : ps.length ≤ 1000) (hs : (flat ps).length ≤ 70368744177664) :
    Calls Try.prog 34 #[.slice (some ⟨g, o, none⟩) ps.length c] w fun e w' => ∃ v, e = .returned v ∧ Own 5 w' w.heap.size v (flat ps) ∧ Below w.heap.size w w' := by
  go_enter Try.func34, Try.ntmps34
  go_wp2_with fail
  go_loop [11, 3] (fun i z => ∃ k : Nat, k ≤ ps.length ∧ i = .int .i64 k ∧ z = .int .i64 ((flat (ps.take k)).length : Int)) (fun i _ => ps.length - (intOf i).toNat)
  case atStart => exact ⟨0, Nat.zero_le _, rfl, by simp [flat]⟩
  case round =>
    obtain ⟨k, hk, rfl, rfl⟩ := hrel
    have hle := flat_take_le ps k
    by_cases hlt : k < ps.length
    · have hcell := (hp k hlt).1
      have hf := Lib.hid (flat_take ps k hlt)
      have hle2 : (flat (ps.take k)).length + (ps[k].l).length ≤ 70368744177664 := by
        have := flat_take_le ps (k + 1); rw [hf.out, List.length_append] at this; omega
      go_wp2_with fail
      go_round
      case rel => exact ⟨k + 1, by omega, by go_num, by rw [hf.out, List.length_append]; go_num⟩
      case measure => simp [intOf]; omega
    · obtain rfl : k = ps.length := by omega
      rw [List.take_length] at hle ⊢
      go_wp2_with (go_at_call 46; refine (grow_any _ _ hs).mono ?_; rintro e w1 ⟨v1, rfl, hown, hb⟩; have HB := Lib.hid hb)
      clear hb
      go_loopw [27, 6] (fun i v wr => ∃ k : Nat, k ≤ ps.length ∧ i = .int .i64 k ∧ Own 5 wr w.heap.size v (flat (ps.take k)) ∧ Below w.heap.size w wr) (fun i _ _ => ps.length - (intOf i).toNat)
      case atStart => exact ⟨0, Nat.zero_le _, rfl, by simpa [flat] using hown, HB.out⟩
      case round =>
        obtain ⟨k, hk, rfl, hownk, hbk⟩ := hrel
        have hlek := flat_take_le ps k
        by_cases hlt : k < ps.length
        · obtain ⟨hc0, hr0⟩ := hp k hlt
          have hcell := (hbk.cell (p := ⟨g, o + k, none⟩) hg).trans hc0
          have hf := Lib.hid (flat_take ps k hlt)
          have hle2 : (flat (ps.take k)).length + (ps[k].l).length ≤ 70368744177664 := by
            have := flat_take_le ps (k + 1); rw [hf.out, List.length_append] at this; omega
          have hHo := Lib.hid hownk
          have hHb := Lib.hid hbk
          clear hc0 hownk hbk
          go_wp2_with (at_builtin; refine wpList_append_rd byteTy rfl _ _ rfl w.heap.size _ _ rfl hHo.out w.heap.size _ _ _ _ rfl rfl (hr0.below hHb.out) (by omega) hHb.out.size ?_; intro v2 w2 hown2 hg2 hat2)
          go_roundw
          case rel =>
            exact ⟨k + 1, by omega, by go_num, by rw [hf.out]; exact hown2, own_trans hHb.out hg2 fun q hq => (hHo.out.lt q hq).1⟩
          case measure => simp [intOf]; omega
        · obtain rfl : k = ps.length := by omega
          rw [List.take_length] at hownk
          go_wp2
          go_ret
          exact ⟨_, rfl, hownk, hbk⟩

theorem are_parts (w : World) (ps : List Part) (t : TypeId) (hp : ∀ p, p ∈ ps → Rd w w.heap.size p.A p.c p.l) :
    AreParts (w.alloc (.cells (ps.map Part.v).toArray t)) (w.heap.size + 1) w.heap.size 0 ps := by
  intro i hi
  refine ⟨?_, ((hp _ (List.getElem_mem hi)).alloc (Nat.le_refl _) _).more (by omega)⟩
  rw [cell_of_row _ _ _ _ _ _ (heap_alloc_new w _), Nat.zero_add]
  simp [hi, Part.v]

/-- Concat of the parts that a call has just listed; d is a row that it made ahead of the list. -/
theorem concat_new (w : World) (d : List UInt8) (ps : List Part) (hd : d.length ≤ 1000) (hp : ∀ p, p ∈ ps → Rd w w.heap.size p.A p.c p.l ∨ p = ⟨some ⟨w.heap.size, 0, none⟩, d.length, d⟩) (hn : ps.length ≤ 1000) (hs : (flat ps).length ≤ 70368744177664) :
    Calls Try.prog 34 #[.slice (some ⟨w.heap.size + 1, 0, none⟩) ps.length ps.length] ((w.alloc (.cells (bcs d) 5)).alloc (.cells (ps.map Part.v).toArray 26)) fun e w' => ∃ v, e = .returned v ∧ Own 5 w' w.heap.size v (flat ps) ∧ Below w.heap.size w w' := by
  have hsz := size_alloc' w (.cells (bcs d) 5)
  have hpp := are_parts (w.alloc (.cells (bcs d) 5)) ps 26 (by
    intro p hm
    rcases hp p hm with h | rfl
    · exact (h.alloc (Nat.le_refl _) _).more (by omega)
    · exact Rd.lit w d 5 _ (by omega) (by unfold maxLen; omega))
  rw [hsz] at hpp
  have hsz2 := size_alloc' (w.alloc (.cells (bcs d) 5)) (.cells (ps.map Part.v).toArray 26)
  rw [hsz] at hsz2
  have hc := concat_any (w.heap.size + 1) 0 ps.length ps _ (by rw [hsz2]; omega) (by rw [hsz2]; exact hpp) hn hs
  refine hc.mono ?_
  rintro e w' ⟨v, rfl, hown, hb⟩
  rw [hsz2] at hown hb
  refine ⟨v, rfl, ⟨hown.1, ?_⟩, ?_⟩
  · rcases hown.2 with h2 | ⟨g, cap, cur, hv, hg, hh, r⟩
    · exact .inl h2
    · exact .inr ⟨g, cap, cur, hv, by omega, hh, r⟩
  · exact (((Below.refl _ w).alloc (Nat.le_refl _) _).alloc (by rw [hsz]; omega) _).trans (hb.mono (by omega))

/-- A number of 64 bits, its sign left out. -/
def unsig (v : Int) : Nat := (IntKind.u64.wrap v).toNat
set_option maxHeartbeats 1000000 in
theorem Int_any (A : Option Addr) (c : Nat) (l : List UInt8) (v : Int) (w : World) (hl : Rd w w.heap.size A c l) (hn : l.length ≤ 35184372088832) :
    Calls Try.prog 21 #[.slice A l.length c, .int .i64 v] w fun e w' => ∃ v', e = .returned v' ∧ Own 5 w' w.heap.size v' (l ++ be 8 (unsig v)) ∧ Below w.heap.size w w' := by
  have hc := Lib.hid (concat_new w (be 8 (unsig v)) [⟨A, c, l⟩, ⟨some ⟨w.heap.size, 0, none⟩, 8, be 8 (unsig v)⟩] (by simp [length_be]) (by simp [hl, length_be]) (by simp) (by simp [flat, length_be]; omega))
  go_enter Try.func21, Try.ntmps21
  go_wp2_with (go_at_call 35; refine (digits_any (IntKind.u64.wrap v) 8 _ (by rw [IntKind.wrap_u64]; omega) (by rw [IntKind.wrap_u64]; omega) (by omega)).mono ?_; rintro e w1 ⟨rfl, rfl⟩)
  refine hc.out.mono ?_
  rintro e w1 ⟨v1, rfl, hown, hb⟩
  go_wp2_with fail
  go_ret
  exact ⟨_, rfl, by simpa [flat] using hown, hb⟩

end Go.Proofs.Ytnaoodaadeimbaa
