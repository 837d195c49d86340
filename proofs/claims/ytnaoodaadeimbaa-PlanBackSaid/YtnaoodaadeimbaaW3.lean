import Derived.Test.YtnaoodaadeimbaaRows
import Derived.Test.YtnaoodaadeimbaaMem
import Derived.Test.YtnaoodaadeimbaaW1
import Derived.Test.YtnaoodaadeimbaaW2
import Derived.WalkKit
import Derived.Outline
import Derived.ProofKit
import Derived.LoopTactic
import Derived.WalkSpells
import Derived.Handy
namespace Go.Proofs.Ytnaoodaadeimbaa
open Go.RowKit Mem

/-- A reader at block g: what is left, whether it is spoilt. -/
def Rdr (w : World) (g : Nat) (l : List UInt8) (bad : Bool) : Prop :=
  ∃ A c, w.heap[g]? = some (.cells #[.slice A l.length c, .bool bad] 72 (0, 0)) ∧ Rd w g A c l ∧ ∀ a, A = some a → a.spot = none

theorem Rdr.parts {w : World} {g : Nat} {l : List UInt8} {bad : Bool} (h : Rdr w g l bad) :
    ∃ A c, w.cell? ⟨g, 0, none⟩ = some (.slice A l.length c) ∧ w.cell? ⟨g, 1, none⟩ = some (.bool bad) ∧ w.frozen? ⟨g, 0, none⟩ = false ∧ w.frozen? ⟨g, 1, none⟩ = false ∧ Rd w g A c l ∧ (∀ a, A = some a → a.spot = none) ∧ g < w.heap.size := by
  obtain ⟨A, c, hh, hr, hs⟩ := h
  refine ⟨A, c, ?_, ?_, ?_, ?_, hr, hs, lt_of_block hh⟩ <;> simp [World.cell?, World.frozen?, hh]

theorem Rdr.set1 {w : World} {g : Nat} {l : List UInt8} {bad : Bool} (h : Rdr w g l bad) (b : Bool) : Rdr (w.setCell ⟨g, 1, none⟩ (.bool b)) g l b := by
  obtain ⟨A, c, hh, hr, hs⟩ := h
  refine ⟨A, c, ?_, hr.keep fun p hp => World.cell?_setCell_other w _ p _ (fun e => by subst e; simp at hp), hs⟩
  simp [World.setCell, Array.getElem?_modify, hh]
theorem Rdr.set0 {w : World} {g : Nat} {l k : List UInt8} {bad : Bool} (h : Rdr w g l bad) (A : Option Addr) (c : Nat) (hk : Rd w g A c k) (hs : ∀ a, A = some a → a.spot = none) : Rdr (w.setCell ⟨g, 0, none⟩ (.slice A k.length c)) g k bad := by
  obtain ⟨A', c', hh, hr, _⟩ := h
  refine ⟨A, c, ?_, hk.keep fun p hp => World.cell?_setCell_other w _ p _ (fun e => by subst e; simp at hp), hs⟩
  simp [World.setCell, Array.getElem?_modify, hh]
theorem Rdr.set0' {w : World} {g m n : Nat} {l : List UInt8} {bad : Bool} (h : Rdr w g l bad) (he : l.length = m) (A : Option Addr) (c : Nat) (hk : Rd w g A c (l.drop n)) (hs : ∀ a, A = some a → a.spot = none) : Rdr (w.setCell ⟨g, 0, none⟩ (.slice A (m - n) c)) g (l.drop n) bad := by
  subst he; have := h.set0 A c hk hs; rwa [List.length_drop] at this
theorem _root_.Go.Proofs.Ytnaoodaadeimbaa.Mem.Rd.set0 {w : World} {g c i : Nat} {A : Option Addr} {l : List UInt8} (h : Rd w g A c l) (u : Value) : Rd (w.setCell ⟨g, i, none⟩ u) g A c l :=
  h.keep fun p hp => World.cell?_setCell_other w _ p _ (fun e => by subst e; simp at hp)
/-- Block g alone has turned, and what is new. -/
theorem only_set {w : World} (g i : Nat) (u : Value) : w.grownBy (w.setCell ⟨g, i, none⟩ u) (some g) :=
  ⟨rfl, rfl, rfl, by simp [World.setCell], fun k hk hne => Below.heap_setCell _ _ _ _ (fun e => hne (by rw [e]))⟩

set_option maxHeartbeats 400000 in
theorem Bad_any (g : Nat) (w : World) (h1 : ∃ b, w.cell? ⟨g, 1, none⟩ = some (.bool b)) (hf : w.frozen? ⟨g, 1, none⟩ = false) :
    Calls Try.prog 45 #[.pointer (some ⟨g, 0, none⟩)] w fun e w' => e = .returned (.tuple #[]) ∧ w.setCell ⟨g, 1, none⟩ (.bool true) = w' := by
  obtain ⟨b, h1⟩ := h1
  go_enter Try.func45, Try.ntmps45
  go_wp2
  go_end0
  exact ⟨rfl, rfl⟩
theorem Bad_nil (w : World) : Calls Try.prog 45 #[.pointer none] w fun e w' => e = .returned (.tuple #[]) ∧ w = w' := by
  go_enter Try.func45, Try.ntmps45
  go_wp2
  go_end0
  exact ⟨rfl, rfl⟩

theorem take_i64_nil (n : Int) (F : Value) (w : World) :
    Calls Try.prog 40 #[.pointer none, .int .u64 n, F] w fun e w' => e = .returned (.int .i64 0) ∧ w = w' := by
  go_enter Try.func40, Try.ntmps40
  go_wp2
  go_ret
  exact ⟨rfl, rfl⟩
theorem take_i64_bad (g : Nat) (n : Int) (F : Value) (l : List UInt8) (w : World) (h : Rdr w g l true) :
    Calls Try.prog 40 #[.pointer (some ⟨g, 0, none⟩), .int .u64 n, F] w fun e w' => e = .returned (.int .i64 0) ∧ w = w' := by
  obtain ⟨A, c, h0, h1, f0, f1, hr, hs, hg⟩ := h.parts
  clear hr hs
  go_enter Try.func40, Try.ntmps40
  go_wp2
  go_ret
  exact ⟨rfl, rfl⟩
set_option maxHeartbeats 400000 in
theorem take_i64_short (g : Nat) (n : Int) (F : Value) (l : List UInt8) (w : World) (h : Rdr w g l false) (hn : (l.length : Int) < n) :
    Calls Try.prog 40 #[.pointer (some ⟨g, 0, none⟩), .int .u64 n, F] w fun e w' => e = .returned (.int .i64 0) ∧ w.setCell ⟨g, 1, none⟩ (.bool true) = w' := by
  obtain ⟨A, c, h0, h1, f0, f1, hr, hs, hg⟩ := h.parts
  have hlc := hr.1
  have hcm := hr.2.1
  unfold maxLen at hcm
  clear hr hs
  go_enter Try.func40, Try.ntmps40
  go_wp2_with (go_at_call 45; refine (Bad_any g _ ⟨_, h1⟩ f1).mono ?_; rintro e w1 ⟨rfl, rfl⟩)
  go_ret
  exact ⟨rfl, rfl⟩
set_option maxHeartbeats 1000000 in
theorem take_i64_ok (g n F : Nat) (C : Array Value) (l : List UInt8) (w : World) (R : Value → World → Prop) (hE : ∀ args W, (callFunc F args).run Try.prog W = .ok (.enter F args) W) (hrd : Rdr w g l false) (hn : n ≤ l.length)
    (hF : ∀ A c w1, Rdr w1 g (l.drop n) false → w.grownBy w1 (some g) → w1.heap.size = w.heap.size → Rd w1 g A c (l.take n) → (∀ a, A = some a → a.spot = none) → Calls Try.prog F (#[.slice A n c] ++ C) w1 fun e w' => ∃ v, e = .returned v ∧ R v w') :
    Calls Try.prog 40 #[.pointer (some ⟨g, 0, none⟩), .int .u64 n, .func (Fn.func F) #[] C] w fun e w' => ∃ v, e = .returned v ∧ R v w' := by
  obtain ⟨A, c, h0, h1, f0, f1, hr, hs, hg⟩ := hrd.parts
  have hlc := hr.1
  have hcm := hr.2.1
  unfold maxLen at hcm
  have hle : ¬ ((l.length : Int) < (n : Int)) := by omega
  have HF := Lib.hid hF
  have hr := Lib.hid hr
  have hs := Lib.hid hs
  clear hF
  rcases A with _ | ⟨b, o, sp⟩
  · have hc0 := hr.out.2.2.1 rfl
    subst hc0
    obtain rfl : l = [] := List.eq_nil_of_length_eq_zero (by omega)
    obtain rfl : n = 0 := by simpa using hn
    go_enter Try.func40, Try.ntmps40
    go_wp2_with fail
    refine (HF.out none 0 _ (hrd.set0' (n := 0) rfl none 0 (Rd.empty _ _ (Nat.zero_le _) (by simp)) (by simp)) (only_set g 0 _) (by simp [World.setCell]) ((hr.out.take 0).set0 _) (by simp)).mono ?_
    rintro e w1 ⟨v1, rfl, hR⟩
    go_wp2
    go_ret
    exact ⟨_, rfl, hR⟩
  · obtain rfl : sp = none := hs.out _ rfl
    go_enter Try.func40, Try.ntmps40
    go_wp2_with fail
    · obtain rfl : c = n := h
      refine (HF.out _ _ _ (hrd.set0' rfl (some ⟨b, o, none⟩) 0 (by rw [List.drop_eq_nil_of_le (by omega)]; exact Rd.empty _ _ (Nat.zero_le _) (by simp)) (by simp)) (only_set g 0 _) (by simp [World.setCell]) ((hr.out.take c).set0 _) (by simp)).mono ?_
      rintro e w1 ⟨v1, rfl, hR⟩
      go_wp2
      go_ret
      exact ⟨_, rfl, hR⟩
    · refine (HF.out _ _ _ (hrd.set0' rfl _ _ (hr.out.drop n hn) (by simp)) (only_set g 0 _) (by simp [World.setCell]) ((hr.out.take n).set0 _) (by simp)).mono ?_
      rintro e w1 ⟨v1, rfl, hR⟩
      go_wp2
      go_ret
      exact ⟨_, rfl, hR⟩

theorem take_int_nil (n : Int) (F : Value) (w : World) :
    Calls Try.prog 43 #[.pointer none, .int .u64 n, F] w fun e w' => e = .returned (.int .i64 0) ∧ w = w' := by
  go_enter Try.func43, Try.ntmps43
  go_wp2
  go_ret
  exact ⟨rfl, rfl⟩
theorem take_int_bad (g : Nat) (n : Int) (F : Value) (l : List UInt8) (w : World) (h : Rdr w g l true) :
    Calls Try.prog 43 #[.pointer (some ⟨g, 0, none⟩), .int .u64 n, F] w fun e w' => e = .returned (.int .i64 0) ∧ w = w' := by
  obtain ⟨A, c, h0, h1, f0, f1, hr, hs, hg⟩ := h.parts
  clear hr hs
  go_enter Try.func43, Try.ntmps43
  go_wp2
  go_ret
  exact ⟨rfl, rfl⟩
set_option maxHeartbeats 400000 in
theorem take_int_short (g : Nat) (n : Int) (F : Value) (l : List UInt8) (w : World) (h : Rdr w g l false) (hn : (l.length : Int) < n) :
    Calls Try.prog 43 #[.pointer (some ⟨g, 0, none⟩), .int .u64 n, F] w fun e w' => e = .returned (.int .i64 0) ∧ w.setCell ⟨g, 1, none⟩ (.bool true) = w' := by
  obtain ⟨A, c, h0, h1, f0, f1, hr, hs, hg⟩ := h.parts
  have hlc := hr.1
  have hcm := hr.2.1
  unfold maxLen at hcm
  clear hr hs
  go_enter Try.func43, Try.ntmps43
  go_wp2_with (go_at_call 45; refine (Bad_any g _ ⟨_, h1⟩ f1).mono ?_; rintro e w1 ⟨rfl, rfl⟩)
  go_ret
  exact ⟨rfl, rfl⟩
set_option maxHeartbeats 1000000 in
theorem take_int_ok (g n F : Nat) (C : Array Value) (l : List UInt8) (w : World) (R : Value → World → Prop) (hE : ∀ args W, (callFunc F args).run Try.prog W = .ok (.enter F args) W) (hrd : Rdr w g l false) (hn : n ≤ l.length)
    (hF : ∀ A c w1, Rdr w1 g (l.drop n) false → w.grownBy w1 (some g) → w1.heap.size = w.heap.size → Rd w1 g A c (l.take n) → (∀ a, A = some a → a.spot = none) → Calls Try.prog F (#[.slice A n c] ++ C) w1 fun e w' => ∃ v, e = .returned v ∧ R v w') :
    Calls Try.prog 43 #[.pointer (some ⟨g, 0, none⟩), .int .u64 n, .func (Fn.func F) #[] C] w fun e w' => ∃ v, e = .returned v ∧ R v w' := by
  obtain ⟨A, c, h0, h1, f0, f1, hr, hs, hg⟩ := hrd.parts
  have hlc := hr.1
  have hcm := hr.2.1
  unfold maxLen at hcm
  have hle : ¬ ((l.length : Int) < (n : Int)) := by omega
  have HF := Lib.hid hF
  have hr := Lib.hid hr
  have hs := Lib.hid hs
  clear hF
  rcases A with _ | ⟨b, o, sp⟩
  · have hc0 := hr.out.2.2.1 rfl
    subst hc0
    obtain rfl : l = [] := List.eq_nil_of_length_eq_zero (by omega)
    obtain rfl : n = 0 := by simpa using hn
    go_enter Try.func43, Try.ntmps43
    go_wp2_with fail
    refine (HF.out none 0 _ (hrd.set0' (n := 0) rfl none 0 (Rd.empty _ _ (Nat.zero_le _) (by simp)) (by simp)) (only_set g 0 _) (by simp [World.setCell]) ((hr.out.take 0).set0 _) (by simp)).mono ?_
    rintro e w1 ⟨v1, rfl, hR⟩
    go_wp2
    go_ret
    exact ⟨_, rfl, hR⟩
  · obtain rfl : sp = none := hs.out _ rfl
    go_enter Try.func43, Try.ntmps43
    go_wp2_with fail
    · obtain rfl : c = n := h
      refine (HF.out _ _ _ (hrd.set0' rfl (some ⟨b, o, none⟩) 0 (by rw [List.drop_eq_nil_of_le (by omega)]; exact Rd.empty _ _ (Nat.zero_le _) (by simp)) (by simp)) (only_set g 0 _) (by simp [World.setCell]) ((hr.out.take c).set0 _) (by simp)).mono ?_
      rintro e w1 ⟨v1, rfl, hR⟩
      go_wp2
      go_ret
      exact ⟨_, rfl, hR⟩
    · refine (HF.out _ _ _ (hrd.set0' rfl _ _ (hr.out.drop n hn) (by simp)) (only_set g 0 _) (by simp [World.setCell]) ((hr.out.take n).set0 _) (by simp)).mono ?_
      rintro e w1 ⟨v1, rfl, hR⟩
      go_wp2
      go_ret
      exact ⟨_, rfl, hR⟩
end Go.Proofs.Ytnaoodaadeimbaa
