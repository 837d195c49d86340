import Derived.Test.YtcjokkjepgfinaaGreatDoorRows
import Derived.Test.YtcjokkjepgfinaaGreatDoorQMem
import Derived.WalkKit
import Derived.Outline
import Derived.ProofKit
import Derived.LoopTactic
import Derived.WalkSpells
import Derived.Handy
set_option linter.unusedVariables false
set_option linter.unusedSimpArgs false
namespace Go.Proofs.YtcjokkjepgfinaaGreatDoor
open Go.RowKit Mem
theorem u8_info : (Tryz.prog.info? 5).map (fun i => (i.zero, i.size, i.bytes)) = some (some (.int .u8 0), 1, 1) := by kernel_rfl
set_option maxHeartbeats 400000 in
theorem digits_any (v : Int) (n : Nat) (w : World) (h0 : 0 ≤ v) (_h1 : v < 18446744073709551616) (hn : n ≤ 8) :
    Calls Tryz.prog 146 #[.int .u64 v, .int .i64 n] w fun e w' => e = .returned (.slice (some ⟨w.heap.size, 0, none⟩) n n) ∧ w' = w.alloc (.cells (bcs (be n v.toNat)) 5) := by
  obtain ⟨i0, hi, hz0, hz1, hz2⟩ := info_parts u8_info
  have hmk : ∀ W, (Instr.makeSlice 32 (.int .i64 (n : Int)) (.int .i64 (n : Int))).run Tryz.prog W = .ok (.slice (some ⟨W.heap.size, 0, none⟩) n n) (W.alloc (.cells (bcs (List.replicate n 0)) 5)) := by
    intro W
    have hr := run_make (P := Tryz.prog) W 32 5 i0 _ Tryz.underlying32 hi hz0 .i64 .i64 n n (by omega) (by omega) (by rw [hz2]; omega) (by omega)
    simp only [Int.toNat_natCast, hz1, Nat.mul_one] at hr
    rw [← bcs_zeros]
    exact hr
  go_enter Tryz.func146, Tryz.ntmps146
  go_wp2
  go_loopw [11] (fun i wr => ∃ k : Nat, k ≤ n ∧ i = .int .i64 k ∧ wr = w.alloc (.cells (bcs (List.replicate (n - k) 0 ++ be k v.toNat)) 5)) (fun i _ => n - (intOf i).toNat)
  case atStart => exact ⟨0, Nat.zero_le _, rfl, by simp [be]⟩
  case round =>
    obtain ⟨k, hk, rfl, rfl⟩ := hrel
    have hx := fun (h : k < n) => zeros_at n k (be k v.toNat) h
    have hv := Lib.hid (byte_of v k h0)
    by_cases hlt : k < n
    · have hx := hx hlt
      go_wp2
      go_roundw
      case rel => exact ⟨k + 1, by omega, by go_num, by rw [hv.out, bcs_set, zeros_set _ _ _ _ hlt]; rfl⟩
      case measure => simp [intOf]; omega
    · obtain rfl : k = n := by omega
      clear hx
      go_wp2
      go_ret
      exact ⟨rfl, by simp⟩
set_option maxHeartbeats 400000 in
theorem number_any (A : Option Addr) (c : Nat) (l : List UInt8) (w : World) (hl : Rd w w.heap.size A c l) (hn : l.length ≤ 8) :
    Calls Tryz.prog 150 #[.slice A l.length c] w fun e w' => e = .returned (.int .u64 (val l : Int)) ∧ w = w' := by
  by_cases h0 : 0 < l.length
  · obtain ⟨b, o, rfl, _, hc⟩ := hl.2.2.2 h0
    go_enter Tryz.func150, Tryz.ntmps150
    go_wp2
    go_loop [8, 3] (fun i v => ∃ k : Nat, k ≤ l.length ∧ i = .int .i64 k ∧ v = .int .u64 (val (l.take k) : Int)) (fun i _ => l.length - (intOf i).toNat)
    case atStart => exact ⟨0, Nat.zero_le _, rfl, by simp [val]⟩
    case round =>
      obtain ⟨k, hk, rfl, rfl⟩ := hrel
      by_cases hlt : k < l.length
      · have hcell := hc k hlt
        have hs := Lib.hid (val_step l k hlt hn)
        go_wp2
        go_round
        case rel => exact ⟨k + 1, by omega, by go_num, by rw [hs.out]⟩
        case measure => simp [intOf]; omega
      · obtain rfl : k = l.length := by omega
        go_wp2
        go_ret
        exact ⟨by simp, rfl⟩
  · have e : l = [] := List.eq_nil_of_length_eq_zero (by omega)
    subst e
    go_enter Tryz.func150, Tryz.ntmps150
    go_wp2
    refine wp_loop_rounds 1 ?_
    rw [rounds_succ]
    go_wp2
    go_ret
    exact ⟨by simp [val], rfl⟩
theorem byteTy : ByteTy Tryz.prog 32 5 := by
  refine ⟨Tryz.underlying32, Tryz.underlying5, ?_⟩
  have h : (Tryz.prog.info? 5).map (fun i => (i.zero, i.size, i.bytes)) = some (some (.int .u8 0), 1, 1) := by kernel_rfl
  obtain ⟨i, h1, h2, h3, h4⟩ := info_parts h
  exact ⟨i, h1, h2, h3, h4⟩
set_option maxHeartbeats 1000000 in
theorem grow_any (n : Nat) (w : World) (hn : n ≤ 70368744177664) :
    Calls Tryz.prog 145 #[.slice none 0 0, .int .i64 n] w fun e w' => ∃ v, e = .returned v ∧ Own 5 w' w.heap.size v [] ∧ Below w.heap.size w w' := by
  obtain ⟨i, hi, hz, hs, hby⟩ := byteTy.info
  by_cases h0 : n = 0
  · subst h0
    go_enter Tryz.func145, Tryz.ntmps145
    go_wp2
    go_ret
    exact ⟨_, rfl, Own.nil _ _ _, Below.refl _ _⟩
  · have hold : (Builtin.firstCells i.size 0 (.slice none 0 0)).run Tryz.prog w.drew = .ok #[] w.drew := by simp [Builtin.firstCells]
    have hrz : ∀ ty, (Builtin.append_ #[32, 3] ty #[.slice none 0 0, .int .i64 (n : Int)]).run Tryz.prog w = .ok (.slice (some ⟨w.heap.size, 0, none⟩) n (grownCap w n 0 5)) (w.drew.alloc (.cells (bcs (List.replicate (grownCap w n 0 5) 0)) 5)) := fun ty => by
      have h := Lib.run_append_grow_zeros w 32 3 ty 5 i _ .i64 .i64 Tryz.underlying32 Tryz.underlying3 hi hz none 0 0 [] hold n (by omega) (by omega) (by omega) (by omega) (by rw [hby]; omega) (by rw [Nat.zero_add]; exact growslice_fits (by omega) (by rw [hby]; omega))
      have hge : n ≤ grownCap w n 0 5 := grownCap_ge w _ _ _
      simp only [Nat.zero_add, Array.empty_append] at h
      rw [h, zeroCells_bytes, zeroCells_bytes, bcs_app, List.replicate_append_replicate, Nat.add_sub_cancel' hge]
    have hGn : n ≤ grownCap w n 0 5 := grownCap_ge w _ _ _
    have hG63 : grownCap w n 0 5 ≤ maxLen := grownCap_le_maxLen w n 0 5 (by unfold maxLen; omega)
    generalize grownCap w n 0 5 = G at hrz hGn hG63
    have hG64 : G ≤ 9223372036854775807 := by unfold maxLen at hG63; omega
    have hpos : (0 : Int) < (n : Int) := by omega
    have HH := Lib.hid (And.intro hG63 hGn)
    clear hold hi hz hs hby hG63 hGn
    go_enter Tryz.func145, Tryz.ntmps145
    go_wp2_with (at_builtin; refine Lib.wpList_append_run _ rfl _ _ _ _ rfl _ _ rfl rfl _ _ (hrz _) ?_)
    go_ret
    exact ⟨_, rfl, ⟨rfl, .inr ⟨_, G, _, rfl, Nat.le_refl _, heap_alloc_new w.drew _, Nat.zero_le _, HH.out.1, by simp [bcs], by simp⟩⟩, ((Below.refl _ _).drew).alloc (Nat.le_refl _) _⟩
def AreParts (w : World) (B : Nat) (g o : Nat) (ps : List Part) : Prop :=
  ∀ i (h : i < ps.length), w.cell? ⟨g, o + i, none⟩ = some (.slice ps[i].A ps[i].l.length ps[i].c) ∧ Rd w B ps[i].A ps[i].c ps[i].l
set_option maxHeartbeats 1000000 in
theorem concat_any (g o c : Nat) (ps : List Part) (w : World) (hg : g < w.heap.size) (hp : AreParts w w.heap.size g o ps) (hn : ps.length ≤ 1000) (hs : (flat ps).length ≤ 70368744177664) :
    Calls Tryz.prog 111 #[.slice (some ⟨g, o, none⟩) ps.length c] w fun e w' => ∃ v, e = .returned v ∧ Own 5 w' w.heap.size v (flat ps) ∧ Below w.heap.size w w' := by
  go_enter Tryz.func111, Tryz.ntmps111
  go_wp2_with fail
  go_loop [11, 3] (fun i z => ∃ k : Nat, k ≤ ps.length ∧ i = .int .i64 k ∧ z = .int .i64 ((flat (ps.take k)).length : Int)) (fun i _ => ps.length - (intOf i).toNat)
  case atStart => exact ⟨0, Nat.zero_le _, rfl, by simp [flat]⟩
  case round =>
    obtain ⟨k, hk, rfl, rfl⟩ := hrel
    have hle := flat_take_le ps k
    by_cases hlt : k < ps.length
    · have hcell := (hp k hlt).1
      have hf := Lib.hid (flat_take ps k hlt)
      have hle2 : (flat (ps.take k)).length + (ps[k].l).length ≤ 70368744177664 := by
        have := flat_take_le ps (k + 1); rw [hf.out, List.length_append] at this; omega
      go_wp2_with fail
      go_round
      case rel => exact ⟨k + 1, by omega, by go_num, by rw [hf.out, List.length_append]; go_num⟩
      case measure => simp [intOf]; omega
    · obtain rfl : k = ps.length := by omega
      rw [List.take_length] at hle ⊢
      go_wp2_with (go_at_call 145; refine (grow_any _ _ hs).mono ?_; rintro e w1 ⟨v1, rfl, hown, hb⟩; have HB := Lib.hid hb)
      clear hb
      go_loopw [27, 6] (fun i v wr => ∃ k : Nat, k ≤ ps.length ∧ i = .int .i64 k ∧ Own 5 wr w.heap.size v (flat (ps.take k)) ∧ Below w.heap.size w wr) (fun i _ _ => ps.length - (intOf i).toNat)
      case atStart => exact ⟨0, Nat.zero_le _, rfl, by simpa [flat] using hown, HB.out⟩
      case round =>
        obtain ⟨k, hk, rfl, hownk, hbk⟩ := hrel
        have hlek := flat_take_le ps k
        by_cases hlt : k < ps.length
        · obtain ⟨hc0, hr0⟩ := hp k hlt
          have hcell := (hbk.cell (p := ⟨g, o + k, none⟩) hg).trans hc0
          have hf := Lib.hid (flat_take ps k hlt)
          have hle2 : (flat (ps.take k)).length + (ps[k].l).length ≤ 70368744177664 := by
            have := flat_take_le ps (k + 1); rw [hf.out, List.length_append] at this; omega
          have hHo := Lib.hid hownk
          have hHb := Lib.hid hbk
          clear hc0 hownk hbk
          go_wp2_with (at_builtin; refine wpList_append_rd byteTy rfl _ _ rfl w.heap.size _ _ rfl hHo.out w.heap.size _ _ _ _ rfl rfl (hr0.below hHb.out) (by omega) hHb.out.size ?_; intro v2 w2 hown2 hg2 hat2)
          go_roundw
          case rel =>
            exact ⟨k + 1, by omega, by go_num, by rw [hf.out]; exact hown2, own_trans hHb.out hg2 fun q hq => (hHo.out.lt q hq).1⟩
          case measure => simp [intOf]; omega
        · obtain rfl : k = ps.length := by omega
          rw [List.take_length] at hownk
          go_wp2
          go_ret
          exact ⟨_, rfl, hownk, hbk⟩
theorem are_parts (w : World) (ps : List Part) (t : TypeId) (hp : ∀ p, p ∈ ps → Rd w w.heap.size p.A p.c p.l) :
    AreParts (w.alloc (.cells (ps.map Part.v).toArray t)) (w.heap.size + 1) w.heap.size 0 ps := by
  intro i hi
  refine ⟨?_, ((hp _ (List.getElem_mem hi)).alloc (Nat.le_refl _) _).more (by omega)⟩
  rw [cell_of_row _ _ _ _ _ _ (heap_alloc_new w _), Nat.zero_add]
  simp [hi, Part.v]
theorem concat_new (w : World) (d : List UInt8) (ps : List Part) (hd : d.length ≤ 1000) (hp : ∀ p, p ∈ ps → Rd w w.heap.size p.A p.c p.l ∨ p = ⟨some ⟨w.heap.size, 0, none⟩, d.length, d⟩) (hn : ps.length ≤ 1000) (hs : (flat ps).length ≤ 70368744177664) :
    Calls Tryz.prog 111 #[.slice (some ⟨w.heap.size + 1, 0, none⟩) ps.length ps.length] ((w.alloc (.cells (bcs d) 5)).alloc (.cells (ps.map Part.v).toArray 32)) fun e w' => ∃ v, e = .returned v ∧ Own 5 w' w.heap.size v (flat ps) ∧ Below w.heap.size w w' := by
  have hsz := size_alloc' w (.cells (bcs d) 5)
  have hpp := are_parts (w.alloc (.cells (bcs d) 5)) ps 32 (by
    intro p hm
    rcases hp p hm with h | rfl
    · exact (h.alloc (Nat.le_refl _) _).more (by omega)
    · exact Rd.lit w d 5 _ (by omega) (by unfold maxLen; omega))
  rw [hsz] at hpp
  have hsz2 := size_alloc' (w.alloc (.cells (bcs d) 5)) (.cells (ps.map Part.v).toArray 32)
  rw [hsz] at hsz2
  have hc := concat_any (w.heap.size + 1) 0 ps.length ps _ (by rw [hsz2]; omega) (by rw [hsz2]; exact hpp) hn hs
  refine hc.mono ?_
  rintro e w' ⟨v, rfl, hown, hb⟩
  rw [hsz2] at hown hb
  refine ⟨v, rfl, ⟨hown.1, ?_⟩, ?_⟩
  · rcases hown.2 with h2 | ⟨g, cap, cur, hv, hg, hh, r⟩
    · exact .inl h2
    · exact .inr ⟨g, cap, cur, hv, by omega, hh, r⟩
  · exact (((Below.refl _ w).alloc (Nat.le_refl _) _).alloc (by rw [hsz]; omega) _).trans (hb.mono (by omega))
set_option maxHeartbeats 1000000 in
theorem Byte_any (A : Option Addr) (c : Nat) (l : List UInt8) (v : Int) (w : World) (hl : Rd w w.heap.size A c l) (hn : l.length ≤ 35184372088832) (h0 : 0 ≤ v) (h1 : v < 256) :
    Calls Tryz.prog 138 #[.slice A l.length c, .int .u8 v] w fun e w' => ∃ v', e = .returned v' ∧ Own 5 w' w.heap.size v' (l ++ be 1 v.toNat) ∧ Below w.heap.size w w' := by
  have hc := Lib.hid (concat_new w (be 1 v.toNat) [⟨A, c, l⟩, ⟨some ⟨w.heap.size, 0, none⟩, 1, be 1 v.toNat⟩] (by simp [be]) (by simp [hl, length_be]) (by simp) (by simp [flat, length_be]; omega))
  go_enter Tryz.func138, Tryz.ntmps138
  go_wp2_with (go_at_call 146; refine (digits_any v 1 _ h0 (by omega) (by omega)).mono ?_; rintro e w1 ⟨rfl, rfl⟩)
  refine hc.out.mono ?_
  rintro e w1 ⟨v1, rfl, hown, hb⟩
  go_wp2_with fail
  go_ret
  exact ⟨_, rfl, by simpa [flat] using hown, hb⟩
set_option maxHeartbeats 1000000 in
theorem Uint_any (A : Option Addr) (c : Nat) (l : List UInt8) (v : Int) (w : World) (hl : Rd w w.heap.size A c l) (hn : l.length ≤ 35184372088832) (h0 : 0 ≤ v) (h1 : v < 18446744073709551616) :
    Calls Tryz.prog 137 #[.slice A l.length c, .int .u64 v] w fun e w' => ∃ v', e = .returned v' ∧ Own 5 w' w.heap.size v' (l ++ be 8 v.toNat) ∧ Below w.heap.size w w' := by
  have hc := Lib.hid (concat_new w (be 8 v.toNat) [⟨A, c, l⟩, ⟨some ⟨w.heap.size, 0, none⟩, 8, be 8 v.toNat⟩] (by simp [length_be]) (by simp [hl, length_be]) (by simp) (by simp [flat, length_be]; omega))
  go_enter Tryz.func137, Tryz.ntmps137
  go_wp2_with (go_at_call 146; refine (digits_any v 8 _ h0 (by omega) (by omega)).mono ?_; rintro e w1 ⟨rfl, rfl⟩)
  refine hc.out.mono ?_
  rintro e w1 ⟨v1, rfl, hown, hb⟩
  go_wp2_with fail
  go_ret
  exact ⟨_, rfl, by simpa [flat] using hown, hb⟩
def unsig (v : Int) : Nat := (IntKind.u64.wrap v).toNat
set_option maxHeartbeats 1000000 in
theorem Int_any (A : Option Addr) (c : Nat) (l : List UInt8) (v : Int) (w : World) (hl : Rd w w.heap.size A c l) (hn : l.length ≤ 35184372088832) :
    Calls Tryz.prog 112 #[.slice A l.length c, .int .i64 v] w fun e w' => ∃ v', e = .returned v' ∧ Own 5 w' w.heap.size v' (l ++ be 8 (unsig v)) ∧ Below w.heap.size w w' := by
  have hc := Lib.hid (concat_new w (be 8 (unsig v)) [⟨A, c, l⟩, ⟨some ⟨w.heap.size, 0, none⟩, 8, be 8 (unsig v)⟩] (by simp [length_be]) (by simp [hl, length_be]) (by simp) (by simp [flat, length_be]; omega))
  go_enter Tryz.func112, Tryz.ntmps112
  go_wp2_with (go_at_call 146; refine (digits_any (IntKind.u64.wrap v) 8 _ (by rw [IntKind.wrap_u64]; omega) (by rw [IntKind.wrap_u64]; omega) (by omega)).mono ?_; rintro e w1 ⟨rfl, rfl⟩)
  refine hc.out.mono ?_
  rintro e w1 ⟨v1, rfl, hown, hb⟩
  go_wp2_with fail
  go_ret
  exact ⟨_, rfl, by simpa [flat] using hown, hb⟩
def Rdr (w : World) (g : Nat) (l : List UInt8) (bad : Bool) : Prop :=
  ∃ A c, w.heap[g]? = some (.cells #[.slice A l.length c, .bool bad] 191 (0, 0)) ∧ Rd w g A c l ∧ ∀ a, A = some a → a.spot = none
theorem Rdr.parts {w : World} {g : Nat} {l : List UInt8} {bad : Bool} (h : Rdr w g l bad) :
    ∃ A c, w.cell? ⟨g, 0, none⟩ = some (.slice A l.length c) ∧ w.cell? ⟨g, 1, none⟩ = some (.bool bad) ∧ w.frozen? ⟨g, 0, none⟩ = false ∧ w.frozen? ⟨g, 1, none⟩ = false ∧ Rd w g A c l ∧ (∀ a, A = some a → a.spot = none) ∧ g < w.heap.size := by
  obtain ⟨A, c, hh, hr, hs⟩ := h
  refine ⟨A, c, ?_, ?_, ?_, ?_, hr, hs, lt_of_block hh⟩ <;> simp [World.cell?, World.frozen?, hh]
theorem Rdr.set1 {w : World} {g : Nat} {l : List UInt8} {bad : Bool} (h : Rdr w g l bad) (b : Bool) : Rdr (w.setCell ⟨g, 1, none⟩ (.bool b)) g l b := by
  obtain ⟨A, c, hh, hr, hs⟩ := h
  refine ⟨A, c, ?_, hr.keep fun p hp => World.cell?_setCell_other w _ p _ (fun e => by subst e; simp at hp), hs⟩
  simp [World.setCell, Array.getElem?_modify, hh]
theorem Rdr.set0 {w : World} {g : Nat} {l k : List UInt8} {bad : Bool} (h : Rdr w g l bad) (A : Option Addr) (c : Nat) (hk : Rd w g A c k) (hs : ∀ a, A = some a → a.spot = none) : Rdr (w.setCell ⟨g, 0, none⟩ (.slice A k.length c)) g k bad := by
  obtain ⟨A', c', hh, hr, _⟩ := h
  refine ⟨A, c, ?_, hk.keep fun p hp => World.cell?_setCell_other w _ p _ (fun e => by subst e; simp at hp), hs⟩
  simp [World.setCell, Array.getElem?_modify, hh]
theorem Rdr.set0' {w : World} {g m n : Nat} {l : List UInt8} {bad : Bool} (h : Rdr w g l bad) (he : l.length = m) (A : Option Addr) (c : Nat) (hk : Rd w g A c (l.drop n)) (hs : ∀ a, A = some a → a.spot = none) : Rdr (w.setCell ⟨g, 0, none⟩ (.slice A (m - n) c)) g (l.drop n) bad := by
  subst he; have := h.set0 A c hk hs; rwa [List.length_drop] at this
theorem _root_.Go.Proofs.YtcjokkjepgfinaaGreatDoor.Mem.Rd.set0 {w : World} {g c i : Nat} {A : Option Addr} {l : List UInt8} (h : Rd w g A c l) (u : Value) : Rd (w.setCell ⟨g, i, none⟩ u) g A c l :=
  h.keep fun p hp => World.cell?_setCell_other w _ p _ (fun e => by subst e; simp at hp)
theorem only_set {w : World} (g i : Nat) (u : Value) : w.grownBy (w.setCell ⟨g, i, none⟩ u) (some g) :=
  ⟨rfl, rfl, rfl, by simp [World.setCell], fun k hk hne => Below.heap_setCell _ _ _ _ (fun e => hne (by rw [e]))⟩
set_option maxHeartbeats 400000 in
theorem Bad_any (g : Nat) (w : World) (h1 : ∃ b, w.cell? ⟨g, 1, none⟩ = some (.bool b)) (hf : w.frozen? ⟨g, 1, none⟩ = false) :
    Calls Tryz.prog 176 #[.pointer (some ⟨g, 0, none⟩)] w fun e w' => e = .returned (.tuple #[]) ∧ w.setCell ⟨g, 1, none⟩ (.bool true) = w' := by
  obtain ⟨b, h1⟩ := h1
  go_enter Tryz.func176, Tryz.ntmps176
  go_wp2
  go_end0
  exact ⟨rfl, rfl⟩
theorem take_u8_bad (g : Nat) (n : Int) (F : Value) (l : List UInt8) (w : World) (h : Rdr w g l true) :
    Calls Tryz.prog 179 #[.pointer (some ⟨g, 0, none⟩), .int .u64 n, F] w fun e w' => e = .returned (.int .u8 0) ∧ w = w' := by
  obtain ⟨A, c, h0, h1, f0, f1, hr, hs, hg⟩ := h.parts
  clear hr hs
  go_enter Tryz.func179, Tryz.ntmps179
  go_wp2
  go_ret
  exact ⟨rfl, rfl⟩
set_option maxHeartbeats 400000 in
theorem take_u8_short (g : Nat) (n : Int) (F : Value) (l : List UInt8) (w : World) (h : Rdr w g l false) (hn : (l.length : Int) < n) :
    Calls Tryz.prog 179 #[.pointer (some ⟨g, 0, none⟩), .int .u64 n, F] w fun e w' => e = .returned (.int .u8 0) ∧ w.setCell ⟨g, 1, none⟩ (.bool true) = w' := by
  obtain ⟨A, c, h0, h1, f0, f1, hr, hs, hg⟩ := h.parts
  have hlc := hr.1
  have hcm := hr.2.1
  unfold maxLen at hcm
  clear hr hs
  go_enter Tryz.func179, Tryz.ntmps179
  go_wp2_with (go_at_call 176; refine (Bad_any g _ ⟨_, h1⟩ f1).mono ?_; rintro e w1 ⟨rfl, rfl⟩)
  go_ret
  exact ⟨rfl, rfl⟩
set_option maxHeartbeats 1000000 in
theorem take_u8_ok (g n F : Nat) (C : Array Value) (l : List UInt8) (w : World) (R : Value → World → Prop) (hE : ∀ args W, (callFunc F args).run Tryz.prog W = .ok (.enter F args) W) (hrd : Rdr w g l false) (hn : n ≤ l.length)
    (hF : ∀ A c w1, Rdr w1 g (l.drop n) false → w.grownBy w1 (some g) → w1.heap.size = w.heap.size → Rd w1 g A c (l.take n) → (∀ a, A = some a → a.spot = none) → Calls Tryz.prog F (#[.slice A n c] ++ C) w1 fun e w' => ∃ v, e = .returned v ∧ R v w') :
    Calls Tryz.prog 179 #[.pointer (some ⟨g, 0, none⟩), .int .u64 n, .func (Fn.func F) #[] C] w fun e w' => ∃ v, e = .returned v ∧ R v w' := by
  obtain ⟨A, c, h0, h1, f0, f1, hr, hs, hg⟩ := hrd.parts
  have hlc := hr.1
  have hcm := hr.2.1
  unfold maxLen at hcm
  have hle : ¬ ((l.length : Int) < (n : Int)) := by omega
  have HF := Lib.hid hF
  have hr := Lib.hid hr
  have hs := Lib.hid hs
  clear hF
  rcases A with _ | ⟨b, o, sp⟩
  · have hc0 := hr.out.2.2.1 rfl
    subst hc0
    obtain rfl : l = [] := List.eq_nil_of_length_eq_zero (by omega)
    obtain rfl : n = 0 := by simpa using hn
    go_enter Tryz.func179, Tryz.ntmps179
    go_wp2_with fail
    refine (HF.out none 0 _ (hrd.set0' (n := 0) rfl none 0 (Rd.empty _ _ (Nat.zero_le _) (by simp)) (by simp)) (only_set g 0 _) (by simp [World.setCell]) ((hr.out.take 0).set0 _) (by simp)).mono ?_
    rintro e w1 ⟨v1, rfl, hR⟩
    go_wp2
    go_ret
    exact ⟨_, rfl, hR⟩
  · obtain rfl : sp = none := hs.out _ rfl
    go_enter Tryz.func179, Tryz.ntmps179
    go_wp2_with fail
    · obtain rfl : c = n := h
      refine (HF.out _ _ _ (hrd.set0' rfl (some ⟨b, o, none⟩) 0 (by rw [List.drop_eq_nil_of_le (by omega)]; exact Rd.empty _ _ (Nat.zero_le _) (by simp)) (by simp)) (only_set g 0 _) (by simp [World.setCell]) ((hr.out.take c).set0 _) (by simp)).mono ?_
      rintro e w1 ⟨v1, rfl, hR⟩
      go_wp2
      go_ret
      exact ⟨_, rfl, hR⟩
    · refine (HF.out _ _ _ (hrd.set0' rfl _ _ (hr.out.drop n hn) (by simp)) (only_set g 0 _) (by simp [World.setCell]) ((hr.out.take n).set0 _) (by simp)).mono ?_
      rintro e w1 ⟨v1, rfl, hR⟩
      go_wp2
      go_ret
      exact ⟨_, rfl, hR⟩
theorem take_u64_bad (g : Nat) (n : Int) (F : Value) (l : List UInt8) (w : World) (h : Rdr w g l true) :
    Calls Tryz.prog 148 #[.pointer (some ⟨g, 0, none⟩), .int .u64 n, F] w fun e w' => e = .returned (.int .u64 0) ∧ w = w' := by
  obtain ⟨A, c, h0, h1, f0, f1, hr, hs, hg⟩ := h.parts
  clear hr hs
  go_enter Tryz.func148, Tryz.ntmps148
  go_wp2
  go_ret
  exact ⟨rfl, rfl⟩
set_option maxHeartbeats 400000 in
theorem take_u64_short (g : Nat) (n : Int) (F : Value) (l : List UInt8) (w : World) (h : Rdr w g l false) (hn : (l.length : Int) < n) :
    Calls Tryz.prog 148 #[.pointer (some ⟨g, 0, none⟩), .int .u64 n, F] w fun e w' => e = .returned (.int .u64 0) ∧ w.setCell ⟨g, 1, none⟩ (.bool true) = w' := by
  obtain ⟨A, c, h0, h1, f0, f1, hr, hs, hg⟩ := h.parts
  have hlc := hr.1
  have hcm := hr.2.1
  unfold maxLen at hcm
  clear hr hs
  go_enter Tryz.func148, Tryz.ntmps148
  go_wp2_with (go_at_call 176; refine (Bad_any g _ ⟨_, h1⟩ f1).mono ?_; rintro e w1 ⟨rfl, rfl⟩)
  go_ret
  exact ⟨rfl, rfl⟩
set_option maxHeartbeats 1000000 in
theorem take_u64_ok (g n F : Nat) (C : Array Value) (l : List UInt8) (w : World) (R : Value → World → Prop) (hE : ∀ args W, (callFunc F args).run Tryz.prog W = .ok (.enter F args) W) (hrd : Rdr w g l false) (hn : n ≤ l.length)
    (hF : ∀ A c w1, Rdr w1 g (l.drop n) false → w.grownBy w1 (some g) → w1.heap.size = w.heap.size → Rd w1 g A c (l.take n) → (∀ a, A = some a → a.spot = none) → Calls Tryz.prog F (#[.slice A n c] ++ C) w1 fun e w' => ∃ v, e = .returned v ∧ R v w') :
    Calls Tryz.prog 148 #[.pointer (some ⟨g, 0, none⟩), .int .u64 n, .func (Fn.func F) #[] C] w fun e w' => ∃ v, e = .returned v ∧ R v w' := by
  obtain ⟨A, c, h0, h1, f0, f1, hr, hs, hg⟩ := hrd.parts
  have hlc := hr.1
  have hcm := hr.2.1
  unfold maxLen at hcm
  have hle : ¬ ((l.length : Int) < (n : Int)) := by omega
  have HF := Lib.hid hF
  have hr := Lib.hid hr
  have hs := Lib.hid hs
  clear hF
  rcases A with _ | ⟨b, o, sp⟩
  · have hc0 := hr.out.2.2.1 rfl
    subst hc0
    obtain rfl : l = [] := List.eq_nil_of_length_eq_zero (by omega)
    obtain rfl : n = 0 := by simpa using hn
    go_enter Tryz.func148, Tryz.ntmps148
    go_wp2_with fail
    refine (HF.out none 0 _ (hrd.set0' (n := 0) rfl none 0 (Rd.empty _ _ (Nat.zero_le _) (by simp)) (by simp)) (only_set g 0 _) (by simp [World.setCell]) ((hr.out.take 0).set0 _) (by simp)).mono ?_
    rintro e w1 ⟨v1, rfl, hR⟩
    go_wp2
    go_ret
    exact ⟨_, rfl, hR⟩
  · obtain rfl : sp = none := hs.out _ rfl
    go_enter Tryz.func148, Tryz.ntmps148
    go_wp2_with fail
    · obtain rfl : c = n := h
      refine (HF.out _ _ _ (hrd.set0' rfl (some ⟨b, o, none⟩) 0 (by rw [List.drop_eq_nil_of_le (by omega)]; exact Rd.empty _ _ (Nat.zero_le _) (by simp)) (by simp)) (only_set g 0 _) (by simp [World.setCell]) ((hr.out.take c).set0 _) (by simp)).mono ?_
      rintro e w1 ⟨v1, rfl, hR⟩
      go_wp2
      go_ret
      exact ⟨_, rfl, hR⟩
    · refine (HF.out _ _ _ (hrd.set0' rfl _ _ (hr.out.drop n hn) (by simp)) (only_set g 0 _) (by simp [World.setCell]) ((hr.out.take n).set0 _) (by simp)).mono ?_
      rintro e w1 ⟨v1, rfl, hR⟩
      go_wp2
      go_ret
      exact ⟨_, rfl, hR⟩
theorem take_i64_bad (g : Nat) (n : Int) (F : Value) (l : List UInt8) (w : World) (h : Rdr w g l true) :
    Calls Tryz.prog 177 #[.pointer (some ⟨g, 0, none⟩), .int .u64 n, F] w fun e w' => e = .returned (.int .i64 0) ∧ w = w' := by
  obtain ⟨A, c, h0, h1, f0, f1, hr, hs, hg⟩ := h.parts
  clear hr hs
  go_enter Tryz.func177, Tryz.ntmps177
  go_wp2
  go_ret
  exact ⟨rfl, rfl⟩
set_option maxHeartbeats 400000 in
theorem take_i64_short (g : Nat) (n : Int) (F : Value) (l : List UInt8) (w : World) (h : Rdr w g l false) (hn : (l.length : Int) < n) :
    Calls Tryz.prog 177 #[.pointer (some ⟨g, 0, none⟩), .int .u64 n, F] w fun e w' => e = .returned (.int .i64 0) ∧ w.setCell ⟨g, 1, none⟩ (.bool true) = w' := by
  obtain ⟨A, c, h0, h1, f0, f1, hr, hs, hg⟩ := h.parts
  have hlc := hr.1
  have hcm := hr.2.1
  unfold maxLen at hcm
  clear hr hs
  go_enter Tryz.func177, Tryz.ntmps177
  go_wp2_with (go_at_call 176; refine (Bad_any g _ ⟨_, h1⟩ f1).mono ?_; rintro e w1 ⟨rfl, rfl⟩)
  go_ret
  exact ⟨rfl, rfl⟩
set_option maxHeartbeats 1000000 in
theorem take_i64_ok (g n F : Nat) (C : Array Value) (l : List UInt8) (w : World) (R : Value → World → Prop) (hE : ∀ args W, (callFunc F args).run Tryz.prog W = .ok (.enter F args) W) (hrd : Rdr w g l false) (hn : n ≤ l.length)
    (hF : ∀ A c w1, Rdr w1 g (l.drop n) false → w.grownBy w1 (some g) → w1.heap.size = w.heap.size → Rd w1 g A c (l.take n) → (∀ a, A = some a → a.spot = none) → Calls Tryz.prog F (#[.slice A n c] ++ C) w1 fun e w' => ∃ v, e = .returned v ∧ R v w') :
    Calls Tryz.prog 177 #[.pointer (some ⟨g, 0, none⟩), .int .u64 n, .func (Fn.func F) #[] C] w fun e w' => ∃ v, e = .returned v ∧ R v w' := by
  obtain ⟨A, c, h0, h1, f0, f1, hr, hs, hg⟩ := hrd.parts
  have hlc := hr.1
  have hcm := hr.2.1
  unfold maxLen at hcm
  have hle : ¬ ((l.length : Int) < (n : Int)) := by omega
  have HF := Lib.hid hF
  have hr := Lib.hid hr
  have hs := Lib.hid hs
  clear hF
  rcases A with _ | ⟨b, o, sp⟩
  · have hc0 := hr.out.2.2.1 rfl
    subst hc0
    obtain rfl : l = [] := List.eq_nil_of_length_eq_zero (by omega)
    obtain rfl : n = 0 := by simpa using hn
    go_enter Tryz.func177, Tryz.ntmps177
    go_wp2_with fail
    refine (HF.out none 0 _ (hrd.set0' (n := 0) rfl none 0 (Rd.empty _ _ (Nat.zero_le _) (by simp)) (by simp)) (only_set g 0 _) (by simp [World.setCell]) ((hr.out.take 0).set0 _) (by simp)).mono ?_
    rintro e w1 ⟨v1, rfl, hR⟩
    go_wp2
    go_ret
    exact ⟨_, rfl, hR⟩
  · obtain rfl : sp = none := hs.out _ rfl
    go_enter Tryz.func177, Tryz.ntmps177
    go_wp2_with fail
    · obtain rfl : c = n := h
      refine (HF.out _ _ _ (hrd.set0' rfl (some ⟨b, o, none⟩) 0 (by rw [List.drop_eq_nil_of_le (by omega)]; exact Rd.empty _ _ (Nat.zero_le _) (by simp)) (by simp)) (only_set g 0 _) (by simp [World.setCell]) ((hr.out.take c).set0 _) (by simp)).mono ?_
      rintro e w1 ⟨v1, rfl, hR⟩
      go_wp2
      go_ret
      exact ⟨_, rfl, hR⟩
    · refine (HF.out _ _ _ (hrd.set0' rfl _ _ (hr.out.drop n hn) (by simp)) (only_set g 0 _) (by simp [World.setCell]) ((hr.out.take n).set0 _) (by simp)).mono ?_
      rintro e w1 ⟨v1, rfl, hR⟩
      go_wp2
      go_ret
      exact ⟨_, rfl, hR⟩
theorem take_int_bad (g : Nat) (n : Int) (F : Value) (l : List UInt8) (w : World) (h : Rdr w g l true) :
    Calls Tryz.prog 181 #[.pointer (some ⟨g, 0, none⟩), .int .u64 n, F] w fun e w' => e = .returned (.int .i64 0) ∧ w = w' := by
  obtain ⟨A, c, h0, h1, f0, f1, hr, hs, hg⟩ := h.parts
  clear hr hs
  go_enter Tryz.func181, Tryz.ntmps181
  go_wp2
  go_ret
  exact ⟨rfl, rfl⟩
set_option maxHeartbeats 400000 in
theorem take_int_short (g : Nat) (n : Int) (F : Value) (l : List UInt8) (w : World) (h : Rdr w g l false) (hn : (l.length : Int) < n) :
    Calls Tryz.prog 181 #[.pointer (some ⟨g, 0, none⟩), .int .u64 n, F] w fun e w' => e = .returned (.int .i64 0) ∧ w.setCell ⟨g, 1, none⟩ (.bool true) = w' := by
  obtain ⟨A, c, h0, h1, f0, f1, hr, hs, hg⟩ := h.parts
  have hlc := hr.1
  have hcm := hr.2.1
  unfold maxLen at hcm
  clear hr hs
  go_enter Tryz.func181, Tryz.ntmps181
  go_wp2_with (go_at_call 176; refine (Bad_any g _ ⟨_, h1⟩ f1).mono ?_; rintro e w1 ⟨rfl, rfl⟩)
  go_ret
  exact ⟨rfl, rfl⟩
set_option maxHeartbeats 1000000 in
theorem take_int_ok (g n F : Nat) (C : Array Value) (l : List UInt8) (w : World) (R : Value → World → Prop) (hE : ∀ args W, (callFunc F args).run Tryz.prog W = .ok (.enter F args) W) (hrd : Rdr w g l false) (hn : n ≤ l.length)
    (hF : ∀ A c w1, Rdr w1 g (l.drop n) false → w.grownBy w1 (some g) → w1.heap.size = w.heap.size → Rd w1 g A c (l.take n) → (∀ a, A = some a → a.spot = none) → Calls Tryz.prog F (#[.slice A n c] ++ C) w1 fun e w' => ∃ v, e = .returned v ∧ R v w') :
    Calls Tryz.prog 181 #[.pointer (some ⟨g, 0, none⟩), .int .u64 n, .func (Fn.func F) #[] C] w fun e w' => ∃ v, e = .returned v ∧ R v w' := by
  obtain ⟨A, c, h0, h1, f0, f1, hr, hs, hg⟩ := hrd.parts
  have hlc := hr.1
  have hcm := hr.2.1
  unfold maxLen at hcm
  have hle : ¬ ((l.length : Int) < (n : Int)) := by omega
  have HF := Lib.hid hF
  have hr := Lib.hid hr
  have hs := Lib.hid hs
  clear hF
  rcases A with _ | ⟨b, o, sp⟩
  · have hc0 := hr.out.2.2.1 rfl
    subst hc0
    obtain rfl : l = [] := List.eq_nil_of_length_eq_zero (by omega)
    obtain rfl : n = 0 := by simpa using hn
    go_enter Tryz.func181, Tryz.ntmps181
    go_wp2_with fail
    refine (HF.out none 0 _ (hrd.set0' (n := 0) rfl none 0 (Rd.empty _ _ (Nat.zero_le _) (by simp)) (by simp)) (only_set g 0 _) (by simp [World.setCell]) ((hr.out.take 0).set0 _) (by simp)).mono ?_
    rintro e w1 ⟨v1, rfl, hR⟩
    go_wp2
    go_ret
    exact ⟨_, rfl, hR⟩
  · obtain rfl : sp = none := hs.out _ rfl
    go_enter Tryz.func181, Tryz.ntmps181
    go_wp2_with fail
    · obtain rfl : c = n := h
      refine (HF.out _ _ _ (hrd.set0' rfl (some ⟨b, o, none⟩) 0 (by rw [List.drop_eq_nil_of_le (by omega)]; exact Rd.empty _ _ (Nat.zero_le _) (by simp)) (by simp)) (only_set g 0 _) (by simp [World.setCell]) ((hr.out.take c).set0 _) (by simp)).mono ?_
      rintro e w1 ⟨v1, rfl, hR⟩
      go_wp2
      go_ret
      exact ⟨_, rfl, hR⟩
    · refine (HF.out _ _ _ (hrd.set0' rfl _ _ (hr.out.drop n hn) (by simp)) (only_set g 0 _) (by simp [World.setCell]) ((hr.out.take n).set0 _) (by simp)).mono ?_
      rintro e w1 ⟨v1, rfl, hR⟩
      go_wp2
      go_ret
      exact ⟨_, rfl, hR⟩
theorem enter37 (args : Array Value) (W : World) : (callFunc 180 args).run Tryz.prog W = .ok (.enter 180 args) W := by kernel_rfl
theorem enter39 (args : Array Value) (W : World) : (callFunc 149 args).run Tryz.prog W = .ok (.enter 149 args) W := by kernel_rfl
theorem enter42 (args : Array Value) (W : World) : (callFunc 178 args).run Tryz.prog W = .ok (.enter 178 args) W := by kernel_rfl
theorem enter47 (args : Array Value) (W : World) : (callFunc 182 args).run Tryz.prog W = .ok (.enter 182 args) W := by kernel_rfl
structure St where
  l : List UInt8
  bad : Bool
def St.num (s : St) (n : Nat) : Nat := if s.bad then 0 else if s.l.length < n then 0 else val (s.l.take n)
def St.after (s : St) (n : Nat) : St := if s.bad then s else if s.l.length < n then ⟨s.l, true⟩ else ⟨s.l.drop n, false⟩
def St.bytes (s : St) (n : Nat) : List UInt8 := if s.bad then [] else if s.l.length < n then [] else s.l.take n
def RdrS (w : World) (g : Nat) (s : St) : Prop := Rdr w g s.l s.bad
theorem grownBy_refl (w : World) (r : Option Nat) : w.grownBy w r := ⟨rfl, rfl, rfl, Nat.le_refl _, fun _ _ _ => rfl⟩
theorem grownBy_trans {a b c : World} {r : Option Nat} (h : a.grownBy b r) (k : b.grownBy c r) : a.grownBy c r :=
  ⟨k.os.trans h.os, k.tape.trans h.tape, k.output.trans h.output, Nat.le_trans h.size k.size, fun i hi hne => (k.block i (Nat.lt_of_lt_of_le hi h.size) hne).trans (h.block i hi hne)⟩
theorem grownBy_below {a b : World} (r : Option Nat) (h : Below a.heap.size a b) : a.grownBy b r := ⟨h.os, h.tape, h.output, h.size, fun i hi _ => h.block i hi⟩
theorem Rdr.below {w w' : World} {g : Nat} {l : List UInt8} {bad : Bool} {B : Nat} (h : Rdr w g l bad) (hb : Below B w w') (hg : g < B) : Rdr w' g l bad := by
  obtain ⟨A, c, hh, hr, hs⟩ := h
  exact ⟨A, c, (hb.block g hg).trans hh, hr.below (hb.mono (by omega)), hs⟩
theorem Rdr.lt {w : World} {g : Nat} {l : List UInt8} {bad : Bool} (h : Rdr w g l bad) : g < w.heap.size := by
  obtain ⟨A, c, hh, _⟩ := h
  exact lt_of_block hh
theorem num_lt (s : St) (n : Nat) : s.num n < 256 ^ n := by
  have hp : 0 < 256 ^ n := Nat.pow_pos (by omega)
  unfold St.num
  split
  · exact hp
  · split
    · exact hp
    · have := val_lt (s.l.take n)
      rw [List.length_take, Nat.min_eq_left (by omega)] at this
      exact this
theorem calls37 (A : Option Addr) (c : Nat) (l : List UInt8) (w : World) (B : Nat) (hr : Rd w B A c l) (hl : l.length = 1) :
    Calls Tryz.prog 180 #[.slice A 1 c] w fun e w' => e = .returned (.int .u8 (val l : Int)) ∧ w = w' := by
  obtain ⟨b, o, rfl, _, hc⟩ := hr.2.2.2 (by omega)
  have hc0 := hc 0 (by omega)
  have hv : val l = l[0].toNat := by
    match l, hl with
    | [x], _ => simp [val]
  have HV := Lib.hid hv
  clear hc hr hv
  rw [Nat.add_zero] at hc0
  go_enter Tryz.func180, Tryz.ntmps180
  go_wp2
  go_ret
  exact ⟨by rw [HV.out]; rfl, rfl⟩
theorem calls39 (A : Option Addr) (c n : Nat) (l : List UInt8) (w : World) (hr : Rd w w.heap.size A c l) (hl : l.length = n) (h8 : n ≤ 8) :
    Calls Tryz.prog 149 #[.slice A n c] w fun e w' => e = .returned (.int .u64 (val l : Int)) ∧ w = w' := by
  subst hl
  go_enter Tryz.func149, Tryz.ntmps149
  go_wp2_with (go_at_call 150; refine (number_any _ _ _ _ hr h8).mono ?_; rintro e w1 ⟨rfl, rfl⟩)
  go_ret
  exact ⟨rfl, rfl⟩
theorem calls42 (A : Option Addr) (c n : Nat) (l : List UInt8) (w : World) (hr : Rd w w.heap.size A c l) (hl : l.length = n) (h8 : n ≤ 8) :
    Calls Tryz.prog 178 #[.slice A n c] w fun e w' => e = .returned (.int .i64 (wrap64 (val l : Int))) ∧ w = w' := by
  subst hl
  go_enter Tryz.func178, Tryz.ntmps178
  go_wp2_with (go_at_call 150; refine (number_any _ _ _ _ hr h8).mono ?_; rintro e w1 ⟨rfl, rfl⟩)
  go_ret
  exact ⟨rfl, rfl⟩
set_option maxHeartbeats 400000 in
theorem clone_any (A : Option Addr) (c n : Nat) (l : List UInt8) (w : World) (hr : Rd w w.heap.size A c l) (hl : l.length = n) (hn : n ≤ 140737488355328) :
    Calls Tryz.prog 38 #[.slice A n c] w fun e w' => ∃ v, e = .returned v ∧ Own 5 w' w.heap.size v l ∧ Below w.heap.size w w' := by
  have he := fun (a : Option Addr) (l c : Nat) => Lib.run_eql_slice_nil (P := Tryz.prog) w 32 5 a l c 0 0 Tryz.underlying32
  rcases A with _ | ad
  · have h0 := hr.2.2.1 rfl
    have : l = [] := List.eq_nil_of_length_eq_zero (by have := hr.1; omega)
    subst this
    go_enter Tryz.func38, Tryz.ntmps38
    go_wp2
    go_ret
    exact ⟨_, rfl, Own.nil _ _ _, Below.refl _ _⟩
  · subst hl
    have hHr := Lib.hid hr
    clear hr
    go_enter Tryz.func38, Tryz.ntmps38
    go_wp2_with (at_builtin; refine wpList_append_rd byteTy rfl _ _ rfl w.heap.size _ [] rfl (Own.lit 5 w [] _ (Nat.le_refl _) (Nat.zero_le _)) w.heap.size _ _ _ _ rfl rfl (hHr.out.alloc (Nat.le_refl _) _) (by simpa using hn) (by simp) ?_; intro v2 w2 hown2 hg2 hat2)
    go_ret
    exact ⟨_, rfl, by simpa using hown2, own_trans ((Below.refl _ w).alloc (Nat.le_refl _) _) hg2 (fun k hk => by change some w.heap.size = some k at hk; injection hk; omega)⟩
def Left (w w' : World) (g : Nat) (s : St) : Prop := RdrS w' g s ∧ w.grownBy w' (some g)
theorem after_ok (l : List UInt8) (n : Nat) (h : ¬ l.length < n) : (⟨l, false⟩ : St).after n = ⟨l.drop n, false⟩ := by
  unfold St.after; rw [if_neg (by simp), if_neg h]
theorem Left.set1 {w : World} {g : Nat} {l : List UInt8} {b : Bool} (h : Rdr w g l b) : Left w (w.setCell ⟨g, 1, none⟩ (.bool true)) g ⟨l, true⟩ := ⟨h.set1 true, only_set g 1 _⟩
theorem RByte_any (g : Nat) (s : St) (w : World) (h : RdrS w g s) :
    Calls Tryz.prog 152 #[.pointer (some ⟨g, 0, none⟩)] w fun e w' => e = .returned (.int .u8 ((s.num 1 : Int))) ∧ Left w w' g (s.after 1) := by
  have hmf : ∀ (fn : Fn) (first cap : Array Value) (w : World), (Instr.makeFunc fn first cap).run Tryz.prog w = .ok (.func fn first cap) w := fun _ _ _ _ => rfl
  have hc : Calls Tryz.prog 179 #[.pointer (some ⟨g, 0, none⟩), .int .u64 1, .func (Fn.func 180) #[] #[]] w fun e w' => ∃ v, e = .returned v ∧ v = .int .u8 ((s.num 1 : Int)) ∧ Left w w' g (s.after 1) := by
    obtain ⟨l, b⟩ := s
    cases b
    · by_cases hn : l.length < 1
      · refine (take_u8_short g 1 _ l w h (by omega)).mono ?_
        rintro e w1 ⟨rfl, rfl⟩
        exact ⟨_, rfl, by simp [St.num, hn], by simpa [St.after, hn] using Left.set1 h⟩
      · refine take_u8_ok g 1 180 #[] l w _ enter37 h (by omega) ?_
        intro A c w1 h1 hg hsz hr hs
        refine (calls37 _ _ _ w1 g hr (by rw [List.length_take]; omega)).mono ?_
        rintro e w' ⟨rfl, rfl⟩
        exact ⟨_, rfl, by simp [St.num, hn], by rw [after_ok _ _ hn]; exact ⟨h1, hg⟩⟩
    · refine (take_u8_bad g 1 _ l w h).mono ?_
      rintro e w1 ⟨rfl, rfl⟩
      exact ⟨_, rfl, by simp [St.num], h, grownBy_refl _ _⟩
  have HC := Lib.hid hc
  clear hc h
  go_enter Tryz.func152, Tryz.ntmps152
  go_wp2_with (go_at_call 179; refine HC.out.mono ?_; rintro e w1 ⟨v1, rfl, rfl, hl⟩)
  go_ret
  exact ⟨rfl, hl⟩
theorem RUint_any (g : Nat) (s : St) (w : World) (h : RdrS w g s) :
    Calls Tryz.prog 118 #[.pointer (some ⟨g, 0, none⟩)] w fun e w' => e = .returned (.int .u64 ((s.num 8 : Int))) ∧ Left w w' g (s.after 8) := by
  have hmf : ∀ (fn : Fn) (first cap : Array Value) (w : World), (Instr.makeFunc fn first cap).run Tryz.prog w = .ok (.func fn first cap) w := fun _ _ _ _ => rfl
  have hc : Calls Tryz.prog 148 #[.pointer (some ⟨g, 0, none⟩), .int .u64 8, .func (Fn.func 149) #[] #[]] w fun e w' => ∃ v, e = .returned v ∧ v = .int .u64 ((s.num 8 : Int)) ∧ Left w w' g (s.after 8) := by
    obtain ⟨l, b⟩ := s
    cases b
    · by_cases hn : l.length < 8
      · refine (take_u64_short g 8 _ l w h (by omega)).mono ?_
        rintro e w1 ⟨rfl, rfl⟩
        exact ⟨_, rfl, by simp [St.num, hn], by simpa [St.after, hn] using Left.set1 h⟩
      · refine take_u64_ok g 8 149 #[] l w _ enter39 h (by omega) ?_
        intro A c w1 h1 hg hsz hr hs
        refine (calls39 _ _ _ _ w1 (hr.more (by have := h1.lt; omega)) (by rw [List.length_take]; omega) (by omega)).mono ?_
        rintro e w' ⟨rfl, rfl⟩
        exact ⟨_, rfl, by simp [St.num, hn], by rw [after_ok _ _ hn]; exact ⟨h1, hg⟩⟩
    · refine (take_u64_bad g 8 _ l w h).mono ?_
      rintro e w1 ⟨rfl, rfl⟩
      exact ⟨_, rfl, by simp [St.num], h, grownBy_refl _ _⟩
  have HC := Lib.hid hc
  clear hc h
  go_enter Tryz.func118, Tryz.ntmps118
  go_wp2_with (go_at_call 148; refine HC.out.mono ?_; rintro e w1 ⟨v1, rfl, rfl, hl⟩)
  go_ret
  exact ⟨rfl, hl⟩
theorem RInt_any (g : Nat) (s : St) (w : World) (h : RdrS w g s) :
    Calls Tryz.prog 151 #[.pointer (some ⟨g, 0, none⟩)] w fun e w' => e = .returned (.int .i64 (wrap64 (s.num 8 : Int))) ∧ Left w w' g (s.after 8) := by
  have hmf : ∀ (fn : Fn) (first cap : Array Value) (w : World), (Instr.makeFunc fn first cap).run Tryz.prog w = .ok (.func fn first cap) w := fun _ _ _ _ => rfl
  have hc : Calls Tryz.prog 177 #[.pointer (some ⟨g, 0, none⟩), .int .u64 8, .func (Fn.func 178) #[] #[]] w fun e w' => ∃ v, e = .returned v ∧ v = .int .i64 (wrap64 (s.num 8 : Int)) ∧ Left w w' g (s.after 8) := by
    obtain ⟨l, b⟩ := s
    cases b
    · by_cases hn : l.length < 8
      · refine (take_i64_short g 8 _ l w h (by omega)).mono ?_
        rintro e w1 ⟨rfl, rfl⟩
        exact ⟨_, rfl, by simp [St.num, hn, wrap64], by simpa [St.after, hn] using Left.set1 h⟩
      · refine take_i64_ok g 8 178 #[] l w _ enter42 h (by omega) ?_
        intro A c w1 h1 hg hsz hr hs
        refine (calls42 _ _ _ _ w1 (hr.more (by have := h1.lt; omega)) (by rw [List.length_take]; omega) (by omega)).mono ?_
        rintro e w' ⟨rfl, rfl⟩
        exact ⟨_, rfl, by simp [St.num, hn], by rw [after_ok _ _ hn]; exact ⟨h1, hg⟩⟩
    · refine (take_i64_bad g 8 _ l w h).mono ?_
      rintro e w1 ⟨rfl, rfl⟩
      exact ⟨_, rfl, by simp [St.num, wrap64], h, grownBy_refl _ _⟩
  have HC := Lib.hid hc
  clear hc h
  go_enter Tryz.func151, Tryz.ntmps151
  go_wp2_with (go_at_call 177; refine HC.out.mono ?_; rintro e w1 ⟨v1, rfl, rfl, hl⟩)
  go_ret
  exact ⟨rfl, hl⟩
theorem _root_.Go.Proofs.YtcjokkjepgfinaaGreatDoor.Mem.Own.mono {e : TypeId} {w : World} {b b' : Nat} {v : Value} {l : List UInt8} (h : Own e w b v l) (hb : b' ≤ b) : Own e w b' v l :=
  ⟨h.1, h.2.imp id fun ⟨g, cap, cur, hv, hg, r⟩ => ⟨g, cap, cur, hv, by omega, r⟩⟩
def St.text (s : St) : List UInt8 := (s.after 4).bytes (s.num 4)
def St.count (s : St) (m : Int) : Int := if m < 0 ∨ m < (s.num 8 : Int) then 0 else (s.num 8 : Int)
def St.countAfter (s : St) (m : Int) : St := if s.bad ∨ s.l.length < 8 ∨ m < 0 ∨ m < (s.num 8 : Int) then ⟨(s.after 8).l, true⟩ else s.after 8
set_option maxRecDepth 100000 in
set_option maxHeartbeats 1000000 in
theorem calls47 (A : Option Addr) (c g gm gr : Nat) (m : Int) (l : List UInt8) (w : World) (hr : Rd w w.heap.size A c l) (hl : l.length = 8) (hm0 : -9223372036854775808 ≤ m) (hm1 : m ≤ 9223372036854775807)
    (h1 : w.cell? ⟨gm, 0, none⟩ = some (.int .i64 m)) (h2 : w.cell? ⟨gr, 0, none⟩ = some (.pointer (some ⟨g, 0, none⟩))) (h3 : w.cell? ⟨g, 1, none⟩ = some (.bool false)) (hf : w.frozen? ⟨g, 1, none⟩ = false) :
    Calls Tryz.prog 182 #[.slice A 8 c, .pointer (some ⟨gm, 0, none⟩), .pointer (some ⟨gr, 0, none⟩)] w fun e w' =>
      e = .returned (.int .i64 (if m < 0 ∨ m < (val l : Int) then 0 else (val l : Int))) ∧ (if m < 0 ∨ m < (val l : Int) then w.setCell ⟨g, 1, none⟩ (.bool true) else w) = w' := by
  have hc := Lib.hid (number_any A c l w hr (by omega))
  rw [hl] at hc
  have hv : (val l : Int) < 18446744073709551616 := by have := val_lt64 l (by omega); omega
  have hv0 : 0 ≤ (val l : Int) := by omega
  clear hr hl
  by_cases hm : m < 0
  · rw [if_pos (.inl hm), if_pos (.inl hm)]
    go_enter Tryz.func182, Tryz.ntmps182
    go_wp2_with (first | (go_at_call 150; refine hc.out.mono ?_; rintro e w1 ⟨rfl, rfl⟩) | (go_at_call 176; refine (Bad_any g _ ⟨_, h3⟩ hf).mono ?_; rintro e w1 ⟨rfl, rfl⟩))
    go_ret
    exact ⟨rfl, rfl⟩
  · by_cases hk : m < (val l : Int)
    · rw [if_pos (.inr hk), if_pos (.inr hk)]
      go_enter Tryz.func182, Tryz.ntmps182
      go_wp2_with (first | (go_at_call 150; refine hc.out.mono ?_; rintro e w1 ⟨rfl, rfl⟩) | (go_at_call 176; refine (Bad_any g _ ⟨_, h3⟩ hf).mono ?_; rintro e w1 ⟨rfl, rfl⟩))
      go_ret
      exact ⟨rfl, rfl⟩
    · have hno : ¬ (m < 0 ∨ m < (val l : Int)) := by omega
      rw [if_neg hno, if_neg hno]
      clear hno
      have hv2 : (val l : Int) ≤ 9223372036854775807 := by omega
      clear hv
      go_enter Tryz.func182, Tryz.ntmps182
      go_wp2_with (first | (go_at_call 150; refine hc.out.mono ?_; rintro e w1 ⟨rfl, rfl⟩) | (go_at_call 176; refine (Bad_any g _ ⟨_, h3⟩ hf).mono ?_; rintro e w1 ⟨rfl, rfl⟩))
      go_ret
      exact ⟨rfl, rfl⟩
theorem takeCount (g : Nat) (s : St) (w : World) (m : Int) (gm gr : Nat) (h : RdrS w g s) (hm0 : -9223372036854775808 ≤ m) (hm1 : m ≤ 9223372036854775807)
    (h1 : w.cell? ⟨gm, 0, none⟩ = some (.int .i64 m)) (h2 : w.cell? ⟨gr, 0, none⟩ = some (.pointer (some ⟨g, 0, none⟩))) (e1 : gm ≠ g) (e2 : gr ≠ g) (b1 : gm < w.heap.size) (b2 : gr < w.heap.size) :
    Calls Tryz.prog 181 #[.pointer (some ⟨g, 0, none⟩), .int .u64 8, .func (Fn.func 182) #[] #[.pointer (some ⟨gm, 0, none⟩), .pointer (some ⟨gr, 0, none⟩)]] w fun e w' => ∃ v, e = .returned v ∧ v = .int .i64 (s.count m) ∧ Left w w' g (s.countAfter m) := by
  obtain ⟨l, b⟩ := s
  cases b
  · by_cases hn : l.length < 8
    · refine (take_int_short g 8 _ l w h (by omega)).mono ?_
      rintro e w1 ⟨rfl, rfl⟩
      exact ⟨_, rfl, by simp [St.count, St.num, hn], by simpa [St.countAfter, St.after, hn] using Left.set1 h⟩
    · refine take_int_ok g 8 182 #[.pointer (some ⟨gm, 0, none⟩), .pointer (some ⟨gr, 0, none⟩)] l w _ enter47 h (by omega) ?_
      intro A c w1 hr1 hg hsz hr hs
      have hnum : (⟨l, false⟩ : St).num 8 = val (l.take 8) := by simp [St.num, hn]
      obtain ⟨_, _, _, q1, _, f1, _, _, hglt⟩ := hr1.parts
      have k1 : w1.cell? ⟨gm, 0, none⟩ = some (.int .i64 m) := (World.cell?_of_block (w := w) (hg.block gm b1 (by simpa using e1))).trans h1
      have k2 : w1.cell? ⟨gr, 0, none⟩ = some (.pointer (some ⟨g, 0, none⟩)) := (World.cell?_of_block (w := w) (hg.block gr b2 (by simpa using e2))).trans h2
      refine (calls47 A c g gm gr m (l.take 8) w1 (hr.more (by omega)) (by rw [List.length_take]; omega) hm0 hm1 k1 k2 q1 f1).mono ?_
      rintro e w' ⟨rfl, rfl⟩
      refine ⟨_, rfl, by rw [St.count, hnum], ?_⟩
      have ha := after_ok l 8 hn
      by_cases hc : m < 0 ∨ m < (val (l.take 8) : Int)
      · rw [if_pos hc]
        have hx : (⟨l, false⟩ : St).countAfter m = ⟨l.drop 8, true⟩ := by unfold St.countAfter; rw [hnum, if_pos (.inr (.inr hc)), ha]
        rw [hx]
        exact ⟨hr1.set1 true, grownBy_trans hg (only_set g 1 _)⟩
      · rw [if_neg hc]
        have hx : (⟨l, false⟩ : St).countAfter m = ⟨l.drop 8, false⟩ := by
          unfold St.countAfter; rw [hnum, if_neg (by rintro (h | h | h); · cases h
                                                     · exact hn h
                                                     · exact hc h), ha]
        rw [hx]
        exact ⟨hr1, hg⟩
  · refine (take_int_bad g 8 _ l w h).mono ?_
    rintro e w1 ⟨rfl, rfl⟩
    exact ⟨_, rfl, by simp [St.count, St.num], by simpa [St.countAfter, St.after] using ⟨h, grownBy_refl _ _⟩⟩
theorem RCount_any (g : Nat) (s : St) (w : World) (m : Int) (h : RdrS w g s) (hm0 : -9223372036854775808 ≤ m) (hm1 : m ≤ 9223372036854775807) :
    Calls Tryz.prog 153 #[.pointer (some ⟨g, 0, none⟩), .int .i64 m] w fun e w' => e = .returned (.int .i64 (s.count m)) ∧ Left w w' g (s.countAfter m) := by
  have hmf : ∀ (fn : Fn) (first cap : Array Value) (w : World), (Instr.makeFunc fn first cap).run Tryz.prog w = .ok (.func fn first cap) w := fun _ _ _ _ => rfl
  have hlt := h.lt
  have hb : Below w.heap.size w ((w.alloc (Obj.cells #[Value.pointer (some { block := g, off := 0 })] 164)).alloc (Obj.cells #[Value.int IntKind.i64 m] 3)) :=
    ((Below.refl _ w).alloc (Nat.le_refl _) _).alloc (by simp) _
  have hc := Lib.hid (takeCount g s _ m (w.heap.size + 1) w.heap.size (Rdr.below h hb hlt) hm0 hm1 (by rw [cell_of_row _ _ _ _ _ _ (heap_alloc2_new w _ _)]; rfl) (by rw [cell_of_row _ _ _ _ _ _ (heap_alloc2_old w _ _)]; rfl) (by omega) (by omega) (by rw [size_alloc', size_alloc']; omega) (by rw [size_alloc', size_alloc']; omega))
  have HB := Lib.hid hb
  clear h hb
  go_enter Tryz.func153, Tryz.ntmps153
  go_wp2_with (go_at_call 181; refine hc.out.mono ?_; rintro e w1 ⟨v1, rfl, rfl, hl⟩)
  go_ret
  exact ⟨rfl, hl.1, grownBy_trans (grownBy_below _ HB.out) hl.2⟩
def St.done (s : St) : Int := if s.bad ∨ s.l ≠ [] then 21 else 0
theorem New_any (A : Option Addr) (c n : Nat) (l : List UInt8) (w : World) (hr : Rd w w.heap.size A c l) (hl : l.length = n) (hn : n ≤ 140737488355328) :
    Calls Tryz.prog 117 #[.slice A n c] w fun e w' => ∃ g, e = .returned (.pointer (some ⟨g, 0, none⟩)) ∧ w.heap.size ≤ g ∧ RdrS w' g ⟨l, false⟩ ∧ Below w.heap.size w w' := by
  subst hl
  have HR := Lib.hid hr
  clear hr
  go_enter Tryz.func117, Tryz.ntmps117
  go_wp2_with (go_at_call 38; refine (clone_any _ _ _ _ _ HR.out rfl hn).mono ?_; rintro e w1 ⟨v1, rfl, hown, hb⟩; obtain ⟨A1, c1, rfl, hr1, hlt1, hs1⟩ := hown.form; have H2 := Lib.hid hr1; have H3 := Lib.hid hb; have H4 := Lib.hid hs1; clear hown hr1 hb hlt1 hs1)
  go_ret
  exact ⟨w1.heap.size, rfl, H3.out.size, ⟨A1, c1, heap_alloc_new w1 _, H2.out.alloc (Nat.le_refl _) _, H4.out⟩, (H3.out.alloc H3.out.size _)⟩
end Go.Proofs.YtcjokkjepgfinaaGreatDoor
