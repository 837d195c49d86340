import Derived.Test.YtnaoodaadeimbaaW3
namespace Go.Proofs.Ytnaoodaadeimbaa
open Go.RowKit Mem

theorem enter42 (args : Array Value) (W : World) : (callFunc 41 args).run Try.prog W = .ok (.enter 41 args) W := by kernel_rfl
theorem enter47 (args : Array Value) (W : World) : (callFunc 44 args).run Try.prog W = .ok (.enter 44 args) W := by kernel_rfl

/-- A reader, as data. -/
structure St where
  l : List UInt8
  bad : Bool
def St.num (s : St) (n : Nat) : Nat := if s.bad then 0 else if s.l.length < n then 0 else val (s.l.take n)
def St.after (s : St) (n : Nat) : St := if s.bad then s else if s.l.length < n then ⟨s.l, true⟩ else ⟨s.l.drop n, false⟩
def St.bytes (s : St) (n : Nat) : List UInt8 := if s.bad then [] else if s.l.length < n then [] else s.l.take n
def RdrS (w : World) (g : Nat) (s : St) : Prop := Rdr w g s.l s.bad

theorem grownBy_refl (w : World) (r : Option Nat) : w.grownBy w r := ⟨rfl, rfl, rfl, Nat.le_refl _, fun _ _ _ => rfl⟩
theorem grownBy_trans {a b c : World} {r : Option Nat} (h : a.grownBy b r) (k : b.grownBy c r) : a.grownBy c r :=
  ⟨k.os.trans h.os, k.tape.trans h.tape, k.output.trans h.output, Nat.le_trans h.size k.size, fun i hi hne => (k.block i (Nat.lt_of_lt_of_le hi h.size) hne).trans (h.block i hi hne)⟩
theorem grownBy_below {a b : World} (r : Option Nat) (h : Below a.heap.size a b) : a.grownBy b r := ⟨h.os, h.tape, h.output, h.size, fun i hi _ => h.block i hi⟩
theorem Rdr.below {w w' : World} {g : Nat} {l : List UInt8} {bad : Bool} {B : Nat} (h : Rdr w g l bad) (hb : Below B w w') (hg : g < B) : Rdr w' g l bad := by
  obtain ⟨A, c, hh, hr, hs⟩ := h
  exact ⟨A, c, (hb.block g hg).trans hh, hr.below (hb.mono (by omega)), hs⟩
theorem Rdr.lt {w : World} {g : Nat} {l : List UInt8} {bad : Bool} (h : Rdr w g l bad) : g < w.heap.size := by
  obtain ⟨A, c, hh, _⟩ := h
  exact lt_of_block hh

theorem num_lt (s : St) (n : Nat) : s.num n < 256 ^ n := by
  have hp : 0 < 256 ^ n := Nat.pow_pos (by omega)
  unfold St.num
  split
  · exact hp
  · split
    · exact hp
    · have := val_lt (s.l.take n)
      rw [List.length_take, Nat.min_eq_left (by omega)] at this
      exact this

theorem calls42 (A : Option Addr) (c n : Nat) (l : List UInt8) (w : World) (hr : Rd w w.heap.size A c l) (hl : l.length = n) (h8 : n ≤ 8) :
    Calls Try.prog 41 #[.slice A n c] w fun e w' => e = .returned (.int .i64 (wrap64 (val l : Int))) ∧ w = w' := by
  subst hl
  go_enter Try.func41, Try.ntmps41
  go_wp2_with (go_at_call 42; refine (number_any _ _ _ _ hr h8).mono ?_; rintro e w1 ⟨rfl, rfl⟩)
  go_ret
  exact ⟨rfl, rfl⟩
set_option maxHeartbeats 400000 in
theorem clone_any (A : Option Addr) (c n : Nat) (l : List UInt8) (w : World) (hr : Rd w w.heap.size A c l) (hl : l.length = n) (hn : n ≤ 140737488355328) :
    Calls Try.prog 39 #[.slice A n c] w fun e w' => ∃ v, e = .returned v ∧ Own 5 w' w.heap.size v l ∧ Below w.heap.size w w' := by
  have he := fun (a : Option Addr) (l c : Nat) => Lib.run_eql_slice_nil (P := Try.prog) w 26 5 a l c 0 0 Try.underlying26
  rcases A with _ | ad
  · have h0 := hr.2.2.1 rfl
    have : l = [] := List.eq_nil_of_length_eq_zero (by have := hr.1; omega)
    subst this
    go_enter Try.func39, Try.ntmps39
    go_wp2
    go_ret
    exact ⟨_, rfl, Own.nil _ _ _, Below.refl _ _⟩
  · subst hl
    have hHr := Lib.hid hr
    clear hr
    go_enter Try.func39, Try.ntmps39
    go_wp2_with (at_builtin; refine wpList_append_rd byteTy rfl _ _ rfl w.heap.size _ [] rfl (Own.lit 5 w [] _ (Nat.le_refl _) (Nat.zero_le _)) w.heap.size _ _ _ _ rfl rfl (hHr.out.alloc (Nat.le_refl _) _) (by simpa using hn) (by simp) ?_; intro v2 w2 hown2 hg2 hat2)
    go_ret
    exact ⟨_, rfl, by simpa using hown2, own_trans ((Below.refl _ w).alloc (Nat.le_refl _) _) hg2 (fun k hk => by change some w.heap.size = some k at hk; injection hk; omega)⟩
end Go.Proofs.Ytnaoodaadeimbaa
