import Derived.Test.YtnpebfolmdbipaaGreatDoorDE
import Derived.Test.YtnpebfolmdbipaaGreatDoorDA
namespace Go.Proofs.YtnpebfolmdbipaaGreatDoor.Dk
set_option maxRecDepth 8000
set_option linter.unusedVariables false
set_option linter.unusedSimpArgs false
open Go.RowKit Mem Go.ChangeMaps

/-! ### The disk's calls, as data -/
def Dsk.ref (d : Dsk) (i : Int) : Int := refuse d (d.has i)
def Dsk.ansW (d : Dsk) (i : Int) : Int := if d.ref i = 0 then d.went else d.ref i
def Dsk.doW (d : Dsk) (i : Int) (l : List UInt8) : Dsk := if d.ref i = 0 then (d.put i.toNat l).burn else d
def Dsk.ansF (d : Dsk) : Int := if d.dead then 9 else d.went
def Dsk.doF (d : Dsk) : Dsk := if d.dead then d else d.flush
theorem ref_zero (d : Dsk) (i : Int) : d.ref i = 0 ↔ d.dead = false ∧ 0 ≤ i ∧ i < d.n := by
  unfold Dsk.ref refuse Dsk.has
  cases d.dead <;> simp

theorem burn_good {d : Dsk} (hg : Good d) : Good d.burn := by
  unfold Dsk.burn; split
  · exact hg
  · exact ⟨hg.mem, hg.nodup⟩
  · exact ⟨hg.mem, hg.nodup⟩
theorem put_good {d : Dsk} (hg : Good d) {i : Nat} (hi : i < d.n) (l : List UInt8) : Good (d.put i l) := by
  unfold Dsk.put
  rcases hW : d.wait i with _ | l'
  · rw [if_neg (by simp)]
    have hni : i ∉ d.order := fun h => ((hg.mem i).1 h).2 hW
    refine ⟨fun j => ?_, ?_⟩
    · show j ∈ d.order ++ [i] ↔ j < d.n ∧ (if j = i then some l else d.wait j) ≠ none
      rw [List.mem_append, List.mem_singleton]
      by_cases e : j = i
      · subst e; simp [hi]
      · rw [if_neg e]; simp only [e, or_false]; exact hg.mem j
    · show (d.order ++ [i]).Nodup
      rw [List.nodup_append]
      exact ⟨hg.nodup, by simp, fun a ha b hb e => by simp at hb; subst hb; subst e; exact hni ha⟩
  · rw [if_pos (by simp)]
    refine ⟨fun j => ?_, hg.nodup⟩
    show j ∈ d.order ↔ j < d.n ∧ (if j = i then some l else d.wait j) ≠ none
    by_cases e : j = i
    · subst e
      rw [if_pos rfl, hg.mem j, hW]; simp
    · rw [if_neg e]; exact hg.mem j
theorem doW_good {d : Dsk} (hg : Good d) (i : Int) (l : List UInt8) : Good (d.doW i l) := by
  unfold Dsk.doW
  split
  · rename_i h
    have := (ref_zero d i).1 h
    exact burn_good (put_good hg (by omega) l)
  · exact hg
theorem doF_good {d : Dsk} (hg : Good d) : Good d.doF := by
  unfold Dsk.doF Dsk.flush
  split
  · exact hg
  · split
    · exact burn_good hg
    · exact ⟨fun i => by simp [Dsk.flushed], List.nodup_nil⟩
theorem fuseTo_good {d : Dsk} (hg : Good d) (n : Int) : Good (d.fuseTo n) := by
  unfold Dsk.fuseTo; split
  · exact hg
  · exact ⟨hg.mem, hg.nodup⟩

/-! ### What a law holds of its disk -/
structure St (B : Nat) (W w : World) (db : Nat) (y : Lay) (d : Dsk) (m : Nat) : Prop where
  is : IsD w db y d
  good : Good d
  le : y.m ≤ m
  bel : Below B W w
  low : ∀ k, y.foot k → B ≤ k
  base : B ≤ W.heap.size

variable {B : Nat} {W w : World} {db : Nat} {y : Lay} {d : Dsk} {m : Nat}

theorem St.step (s : St B W w db y d m) {w' : World} {y' : Lay} {d' : Dsk} {m' : Nat} (h : IsD w' db y' d') (hg : Good d') (hm : y'.m ≤ m') (hk : Kp w y w' y') : St B W w' db y' d' m' :=
  ⟨h, hg, hm, s.bel.trans (hk.below (Nat.le_trans s.base s.bel.size) s.low), hk.low (Nat.le_trans s.base s.bel.size) s.low, s.base⟩
theorem St.keep (s : St B W w db y d m) {w' : World} (hb : Below w.heap.size w w') : St B W w' db y d m :=
  ⟨s.is.below hb, s.good, s.le, s.bel.trans (hb.mono (Nat.le_trans s.base s.bel.size)), s.low, s.base⟩
theorem St.alloc (s : St B W w db y d m) (o : Obj) : St B W (w.alloc o) db y d m := s.keep ((Below.refl _ w).alloc (Nat.le_refl _) o)
theorem Kp.ofBelow {w w' : World} (y : Lay) (h : Below w.heap.size w w') : Kp w y w' y := Kp.same (Fr.ofBelow h)

theorem St.new (n : Nat) (w : World) (h1 : 1 ≤ n) (h2 : n ≤ 4096) :
    Calls Tryz.prog 43 #[.int .i64 n] w fun e w' => e = .returned (.tuple #[ptr (w.heap.size + 2), .int .i64 0]) ∧ St w.heap.size w w' (w.heap.size + 2) (newY w.heap.size) (newD n) 0 := by
  refine (new_any n w h1 h2).mono ?_
  rintro e w' ⟨rfl, h3, h4⟩
  exact ⟨rfl, h3, newD_good n, Nat.le_refl _, h4, fun k hk => (newY_low _ _ hk).1, Nat.le_refl _⟩

theorem St.read (s : St B W w db y d m) (i : Int) :
    Calls Tryz.prog 37 #[ptr db, .int .i64 i] w fun e w' => ∃ v, e = .returned (.tuple #[v, .int .i64 (d.ref i)]) ∧ (d.ref i = 0 → Own 5 w' w.heap.size v (d.page i.toNat)) ∧ (d.ref i ≠ 0 → v = .slice none 0 0) ∧ St B W w' db y d m ∧ Below w.heap.size w w' := by
  by_cases h : d.ref i = 0
  · obtain ⟨h1, h2, h3⟩ := (ref_zero d i).1 h
    obtain ⟨n, rfl⟩ := Int.eq_ofNat_of_zero_le h2
    refine (read_ok s.is n h1 (by omega)).mono ?_
    rintro e w' ⟨v, rfl, h4, h5⟩
    exact ⟨v, by rw [h], fun _ => h4, fun e => absurd h e, s.keep h5, h5⟩
  · refine (read_bad s.is i h).mono ?_
    rintro e w' ⟨rfl, h5⟩
    exact ⟨_, rfl, fun e => absurd e h, fun _ => rfl, s.keep h5, h5⟩

/-- Write of a page that was just made. -/
theorem St.write (s : St B W w db y d m) (i : Int) (l : List UInt8) (hl : l.length = 4096) (hm : m < 999999999) :
    Calls Tryz.prog 45 #[ptr db, .int .i64 i, .slice (some ⟨w.heap.size, 0, none⟩) 4096 4096] (w.alloc (.cells (bcs l) 5)) fun e w' => e = .returned (.int .i64 (d.ansW i)) ∧ ∃ y', St B W w' db y' (d.doW i l) (m + 2) ∧ Kp (w.alloc (.cells (bcs l) 5)) y w' y' := by
  have s1 := s.alloc (.cells (bcs l) 5)
  have hrd : Rd (w.alloc (.cells (bcs l) 5)) (w.alloc (.cells (bcs l) 5)).heap.size (some ⟨w.heap.size, 0, none⟩) 4096 l := by
    have := Rd.lit w l 5 (w.heap.size + 1) (by omega) (by rw [hl]; unfold maxLen; omega)
    rw [hl] at this
    rw [size_alloc']; exact this
  have hA : ∀ a : Addr, some (⟨w.heap.size, 0, none⟩ : Addr) = some a → ¬ y.foot a.block := fun a e hf => by
    injection e with e; subst e
    have := s.is.foot _ hf; simp at this
  by_cases h : d.ref i = 0
  · obtain ⟨h1, h2, h3⟩ := (ref_zero d i).1 h
    obtain ⟨n, rfl⟩ := Int.eq_ofNat_of_zero_le h2
    have e1 : d.ansW n = d.went := if_pos h
    have e2 : d.doW n l = (d.put n l).burn := if_pos h
    have hgood := doW_good s.good n l
    have hle := s.le
    rw [e1]
    rw [e2] at hgood ⊢
    rcases hW : d.wait n with _ | l'
    · refine (write_none s1.is n _ 4096 l hrd hl h1 (by omega) (by omega) hW hA).mono ?_
      rintro e w' ⟨rfl, y', i1, i2, i3⟩
      exact ⟨rfl, y', s1.step i1 hgood (by omega) i2, i2⟩
    · refine (write_some s1.is n _ 4096 l hrd hl h1 (by omega) (by omega) (by rw [hW]; rfl)).mono ?_
      rintro e w' ⟨rfl, y', i1, i2, i3⟩
      exact ⟨rfl, y', s1.step i1 hgood (by omega) i2, i2⟩
  · have e0 : refuse d (d.has i && decide (4096 = 4096)) = d.ref i := by simp [Dsk.ref]
    have e1 : d.ansW i = d.ref i := if_neg h
    have e2 : d.doW i l = d := if_neg h
    rw [e1, e2]
    refine (write_bad s1.is i _ 4096 4096 (by rw [e0]; exact h)).mono ?_
    rintro e w' ⟨rfl, i1⟩
    have s2 := s1.keep i1
    exact ⟨by rw [e0], y, ⟨s2.is, s2.good, Nat.le_trans s2.le (by omega), s2.bel, s2.low, s2.base⟩, Kp.ofBelow y i1⟩
/-- Write of bytes that are no page. -/
theorem St.writeBad (s : St B W w db y d m) (i : Int) (A : Option Addr) (n c : Nat) (hn : n ≠ 4096) :
    Calls Tryz.prog 45 #[ptr db, .int .i64 i, .slice A n c] w fun e w' => e = .returned (.int .i64 (if d.dead then 9 else 1)) ∧ St B W w' db y d m ∧ Kp w y w' y := by
  have e0 : refuse d (d.has i && decide (n = 4096)) = if d.dead then 9 else 1 := by simp [refuse, hn]
  have := write_bad s.is i A n c (by rw [e0]; split <;> omega)
  rw [e0] at this
  refine this.mono ?_
  rintro e w' ⟨rfl, i1⟩
  exact ⟨rfl, s.keep i1, Kp.ofBelow y i1⟩
theorem St.flush (s : St B W w db y d m) (hm : m < 1000000000) :
    Calls Tryz.prog 101 #[ptr db] w fun e w' => e = .returned (.int .i64 d.ansF) ∧ ∃ y', St B W w' db y' d.doF m ∧ Kp w y w' y' := by
  have hgood := doF_good s.good
  have hle := s.le
  by_cases h : d.dead = true
  · have e1 : d.ansF = 9 := if_pos h
    have e2 : d.doF = d := if_pos h
    rw [e1, e2]
    refine (flush_bad s.is h).mono ?_
    rintro e w' ⟨rfl, rfl⟩
    exact ⟨rfl, y, s, Kp.refl _ _⟩
  · have e1 : d.ansF = d.went := if_neg h
    have e2 : d.doF = d.flush := if_neg h
    rw [e1]
    rw [e2] at hgood ⊢
    refine (flush_any s.is s.good (by omega) (by simpa using h)).mono ?_
    rintro e w' ⟨rfl, y', i1, i2, i3⟩
    exact ⟨rfl, y', s.step i1 hgood (by omega) i2, i2⟩
theorem St.fuse (s : St B W w db y d m) (n : Int) (hn : n < 9223372036854775808) :
    Calls Tryz.prog 33 #[ptr db, .int .i64 n] w fun e w' => e = .returned (.tuple #[]) ∧ St B W w' db y (d.fuseTo n) m ∧ Kp w y w' y := by
  refine (fuse_any s.is n hn).mono ?_
  rintro e w' ⟨rfl, i1, i2⟩
  exact ⟨rfl, s.step i1 (fuseTo_good s.good n) s.le i2, i2⟩
theorem St.kill (s : St B W w db y d m) :
    Calls Tryz.prog 42 #[ptr db] w fun e w' => e = .returned (.tuple #[]) ∧ St B W w' db y { d with dead := true } m ∧ Kp w y w' y := by
  refine (kill_any s.is).mono ?_
  rintro e w' ⟨rfl, i1, i2⟩
  exact ⟨rfl, s.step i1 ⟨s.good.mem, s.good.nodup⟩ s.le i2, i2⟩
theorem St.restart (s : St B W w db y d m) (hm : m < 1000000000) (A : Option Addr) (c n : Nat) (fs : List Int) (hr : RdI w w.heap.size A c fs) (hn : fs.length = n) (hA : 0 < fs.length → ∀ a, A = some a → ¬ y.foot a.block) :
    Calls Tryz.prog 35 #[ptr db, .slice A n c] w fun e w' => e = .returned (.tuple #[]) ∧ ∃ y', St B W w' db y' (d.restart fs) m ∧ Kp w y w' y' := by
  have hle := s.le
  refine (restart_any s.is s.good (by omega) A c n fs hr hn hA).mono ?_
  rintro e w' ⟨rfl, y', i1, i2, i3⟩
  exact ⟨rfl, y', s.step i1 (restart_good d fs) (by omega) i2, i2⟩
/-- A store into a block that is none of the disk's. -/
theorem St.poke (s : St B W w db y d m) (p : Addr) (u : Value) (hf : ¬ y.foot p.block) (hB : B ≤ p.block) : St B W (w.setCell p u) db y d m :=
  ⟨s.is.fr (Fr.setCell (F := fun k => k = p.block) w p (fun _ => rfl) u) (fun k hk e => hf (e ▸ hk)), s.good, s.le, s.bel.setCell hB u, s.low, s.base⟩

theorem read_nil (w : World) (i : Int) : Calls Tryz.prog 37 #[.pointer none, .int .i64 i] w fun e w' => e = .returned (.tuple #[.slice none 0 0, .int .i64 8]) ∧ Below w.heap.size w w' := by
  have hmk := hmf
  have H1 := Lib.hid (((Below.refl _ w).alloc (Nat.le_refl _) (.cells #[.pointer none] 24)).alloc (by simp) (.cells #[.int .i64 i] 3))
  go_enter Tryz.func37, Tryz.ntmps37
  go_wp2_with (go_at_call 70; refine (refuses_nil _ _).mono ?_; rintro e w1 ⟨rfl, rfl⟩)
  go_ret2
  exact ⟨rfl, H1.out⟩
theorem write_nil (w : World) (i : Int) (A : Option Addr) (n c : Nat) : Calls Tryz.prog 45 #[.pointer none, .int .i64 i, .slice A n c] w fun e w' => e = .returned (.int .i64 8) ∧ Below w.heap.size w w' := by
  have hmk := hmf
  have H1 := Lib.hid ((((Below.refl _ w).alloc (Nat.le_refl _) (.cells #[.pointer none] 24)).alloc (by simp) (.cells #[.int .i64 i] 3)).alloc (by simp; omega) (.cells #[.slice A n c] 36))
  go_enter Tryz.func45, Tryz.ntmps45
  go_wp2_with (go_at_call 70; refine (refuses_nil _ _).mono ?_; rintro e w1 ⟨rfl, rfl⟩)
  go_ret
  exact ⟨rfl, H1.out⟩
theorem flush_nil (w : World) : Calls Tryz.prog 101 #[.pointer none] w fun e w' => e = .returned (.int .i64 8) ∧ w' = w := by
  go_enter Tryz.func101, Tryz.ntmps101
  go_wp2_with (go_at_call 70; refine (refuses_nil _ _).mono ?_; rintro e w1 ⟨rfl, rfl⟩)
  go_ret
  exact ⟨rfl, rfl⟩
end Go.Proofs.YtnpebfolmdbipaaGreatDoor.Dk
