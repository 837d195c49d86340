import Derived.Test.YtnpebfolmdbipaaGreatDoorFT
import Derived.Test.YtnpebfolmdbipaaGreatDoorDT
import Derived.Test.YtnpebfolmdbipaaGreatDoorL2
import Derived.Test.YtnpebfolmdbipaaGreatDoorW6
import Derived.Test.YtnpebfolmdbipaaGreatDoorF7
import Derived.Deep.MidRow
import Derived.StillTailTactics
import Derived.BigQuiet
import Derived.Lib.BitFns
import Derived.Deep.WholeRow
import Derived.Deep.RegionHeld3
namespace Go.Proofs.YtnpebfolmdbipaaGreatDoor.Sk
set_option maxRecDepth 8000
set_option linter.unusedVariables false
set_option linter.unusedSimpArgs false
open Go.RowKit Mem

/-! ### A store's bits, as data -/
/-- The root, and of each page whether it is taken. -/
structure Sta where
  root : Nat
  has : Nat → Bool
/-- Byte j of the bits. -/
def pkTo (f : Nat → Bool) (j : Nat) : Nat → Nat
  | 0 => 0
  | k + 1 => pkTo f j k + if f (8 * j + k) then 2 ^ k else 0
def pk (f : Nat → Bool) (j : Nat) : Nat := pkTo f j 8
theorem pkTo_lt (f : Nat → Bool) (j k : Nat) : pkTo f j k < 2 ^ k := by
  induction k with
  | zero => simp [pkTo]
  | succ k ih => rw [pkTo, Nat.pow_succ]; split <;> omega
theorem pk_lt (f : Nat → Bool) (j : Nat) : pk f j < 256 := pkTo_lt f j 8
theorem pkTo_bit (f : Nat → Bool) (j k i : Nat) (h : i < k) : (pkTo f j k).testBit i = f (8 * j + i) := by
  induction k with
  | zero => omega
  | succ k ih =>
    have hlt := pkTo_lt f j k
    rw [pkTo]
    by_cases hf : f (8 * j + k) = true
    · rw [if_pos hf, Nat.add_comm]
      by_cases e : i = k
      · subst e
        rw [Nat.testBit_two_pow_add_eq, Nat.testBit_lt_two_pow hlt, hf]; rfl
      · rw [Nat.testBit_two_pow_add_gt (by omega)]
        exact ih (by omega)
    · rw [if_neg hf, Nat.add_zero]
      by_cases e : i = k
      · subst e
        rw [Nat.testBit_lt_two_pow hlt]
        simpa using hf
      · exact ih (by omega)
theorem pk_bit (f : Nat → Bool) (j i : Nat) (h : i < 8) : (pk f j).testBit i = f (8 * j + i) := pkTo_bit f j 8 i h
theorem pk_bit_out (f : Nat → Bool) (j i : Nat) (h : 8 ≤ i) : (pk f j).testBit i = false :=
  Nat.testBit_lt_two_pow (Nat.lt_of_lt_of_le (pk_lt f j) (Nat.pow_le_pow_right (n := 2) (by omega) h))
/-- A byte is told by its bits. -/
theorem pk_of (f : Nat → Bool) (j n : Nat) (hn : n < 256) (h : ∀ i, i < 8 → n.testBit i = f (8 * j + i)) : n = pk f j := by
  refine Nat.eq_of_testBit_eq fun i => ?_
  by_cases hi : i < 8
  · rw [h i hi, pk_bit f j i hi]
  · rw [pk_bit_out f j i (by omega)]
    exact Nat.testBit_lt_two_pow (Nat.lt_of_lt_of_le hn (Nat.pow_le_pow_right (n := 2) (by omega) (show 8 ≤ i by omega)))
theorem pk_congr {f g : Nat → Bool} {j : Nat} (h : ∀ i, i < 8 → f (8 * j + i) = g (8 * j + i)) : pk f j = pk g j :=
  pk_of g j _ (pk_lt f j) fun i hi => by rw [pk_bit f j i hi, h i hi]
def flip (f : Nat → Bool) (p : Nat) : Nat → Bool := fun q => if q = p then !f q else f q
theorem flip_flip (f : Nat → Bool) (p : Nat) : flip (flip f p) p = f := by
  funext q; unfold flip; split <;> simp
theorem flip_same (f : Nat → Bool) (p : Nat) : flip f p p = !f p := by simp [flip]
theorem flip_other (f : Nat → Bool) {p q : Nat} (h : q ≠ p) : flip f p q = f q := by simp [flip, h]
theorem pk_flip (f : Nat → Bool) (p : Nat) : pk f (p / 8) ^^^ 2 ^ (p % 8) = pk (flip f p) (p / 8) := by
  have h2 : 2 ^ (p % 8) < 256 := Nat.lt_of_lt_of_le (Nat.pow_lt_pow_right (by omega) (show p % 8 < 8 by omega)) (by decide)
  refine pk_of _ _ _ (Nat.xor_lt_two_pow (n := 8) (pk_lt f _) h2) fun i hi => ?_
  rw [Nat.testBit_xor, pk_bit f _ i hi, Nat.testBit_two_pow]
  by_cases e : p % 8 = i
  · have : 8 * (p / 8) + i = p := by omega
    rw [this, flip_same, decide_eq_true e]; simp
  · have : 8 * (p / 8) + i ≠ p := by omega
    rw [flip_other _ this, decide_eq_false e]; simp
theorem pk_flip_other (f : Nat → Bool) (p j : Nat) (h : j ≠ p / 8) : pk (flip f p) j = pk f j :=
  pk_congr fun i hi => flip_other _ (by omega)

/-- A state's cells. -/
def stc (t : Sta) (j : Nat) : Value := if j = 0 then .int .i64 (t.root : Int) else .int .u8 (pk t.has (j - 1) : Int)
/-- In block b, from o on, lies the state t. -/
def StaAt (w : World) (b o : Nat) (t : Sta) : Prop := ∀ j, j < 513 → w.cell? ⟨b, o + j, none⟩ = some (stc t j)
theorem StaAt.root {w : World} {b o : Nat} {t : Sta} (h : StaAt w b o t) : w.cell? ⟨b, o, none⟩ = some (.int .i64 (t.root : Int)) := h 0 (by omega)
theorem StaAt.byte {w : World} {b o : Nat} {t : Sta} (h : StaAt w b o t) (j : Nat) (hj : j < 512) : w.cell? ⟨b, o + 1 + j, none⟩ = some (.int .u8 (pk t.has j : Int)) := by
  have := h (j + 1) (by omega)
  rw [show o + (j + 1) = o + 1 + j by omega] at this
  rw [this]; simp [stc]
theorem StaAt.keep {w w' : World} {b o : Nat} {t : Sta} (h : StaAt w b o t) (e : w'.heap[b]? = w.heap[b]?) : StaAt w' b o t := fun j hj => (World.cell?_of_block (w := w) e).trans (h j hj)

/-- Is page p taken? -/
def Sta.hasI (t : Sta) (p : Int) : Bool := decide (0 ≤ p ∧ p < 4096) && t.has p.toNat
theorem hasI_nat (t : Sta) (p : Nat) (h : p < 4096) : t.hasI (p : Int) = t.has p := by
  have : (0 : Int) ≤ p ∧ (p : Int) < 4096 := by omega
  simp [Sta.hasI, this]

theorem bit_read (f : Nat → Bool) (n : Nat) : (bits BinOp.and IntKind.u8 ((pk f (n / 8) : Int) / 2 ^ (n % 8)) 1 == 1) = f n := by
  have e1 : ((pk f (n / 8) : Int) / 2 ^ (n % 8)) = ((pk f (n / 8) / 2 ^ (n % 8) : Nat) : Int) := by
    rw [Int.natCast_ediv, Int.natCast_pow]; rfl
  have hlt : pk f (n / 8) / 2 ^ (n % 8) < 256 := Nat.lt_of_le_of_lt (Nat.div_le_self _ _) (pk_lt f _)
  rw [e1, show (1 : Int) = ((1 : Nat) : Int) from rfl, u8_and_nat _ _ hlt (by omega), Nat.and_one_is_mod]
  have hb := pk_bit f (n / 8) (n % 8) (by omega)
  rw [show 8 * (n / 8) + n % 8 = n by omega, Nat.testBit_eq_decide_div_mod_eq] at hb
  rw [← hb, Bool.eq_iff_iff, beq_iff_eq, decide_eq_true_eq]
  omega

theorem has_any (w : World) (b o : Nat) (t : Sta) (p : Int) (h : StaAt w b o t) :
    Calls Tryz.prog 55 #[.pointer (some ⟨b, o, none⟩), .int .i64 p] w fun e w' => e = .returned (.bool (t.hasI p)) ∧ w' = w := by
  by_cases h0 : 0 ≤ p ∧ p < 4096
  · obtain ⟨n, rfl⟩ := Int.eq_ofNat_of_zero_le h0.1
    have hn : n < 4096 := by omega
    rw [hasI_nat t n hn]
    have hc := h.byte (n / 8) (by omega)
    have i1 : (0 : Int) ≤ (n : Int) := by omega
    have i2 : (n : Int) < 4096 := by omega
    have hb := Lib.hid (bit_read t.has n)
    clear h h0
    go_enter Tryz.func55, Tryz.ntmps55
    go_wp2_with fail
    go_ret
    exact ⟨by rw [hb.out]; rfl, rfl⟩
  · have e : t.hasI p = false := by unfold Sta.hasI; rw [decide_eq_false h0]; rfl
    rw [e]
    clear e h
    by_cases h1 : 0 ≤ p
    · have h2 : ¬ p < 4096 := by omega
      go_enter Tryz.func55, Tryz.ntmps55
      go_wp2_with fail
      go_ret
      exact ⟨rfl, rfl⟩
    · go_enter Tryz.func55, Tryz.ntmps55
      go_wp2_with fail
      go_ret
      exact ⟨rfl, rfl⟩

/-- The state with page p turned. -/
def Sta.turn (t : Sta) (p : Nat) : Sta := { t with has := flip t.has p }
theorem StaAt.turn {w : World} {b o : Nat} {t : Sta} (h : StaAt w b o t) (p : Nat) (hp : p < 4096) : StaAt (w.setCell ⟨b, o + 1 + p / 8, none⟩ (.int .u8 (pk (flip t.has p) (p / 8) : Int))) b o (t.turn p)  := fun j hj => by
  by_cases e : j = 1 + p / 8
  · subst e
    rw [show o + (1 + p / 8) = o + 1 + p / 8 by omega, World.cell?_setCell_same _ _ _ (h.byte (p / 8) (by omega))]
    simp [stc, Sta.turn]
  · rw [World.cell?_setCell_other _ _ _ _ (by intro e2; injection e2 with _ e3; omega)]
    rw [h j hj]
    unfold stc Sta.turn
    split
    · rfl
    · rw [pk_flip_other _ _ _ (by omega)]
theorem turn_any (w : World) (b o : Nat) (t : Sta) (p : Nat) (hp : p < 4096) (h : StaAt w b o t) (hf : w.frozen? ⟨b, o + 1 + p / 8, none⟩ = false) :
    Calls Tryz.prog 95 #[.pointer (some ⟨b, o, none⟩), .int .i64 p] w fun e w' => e = .returned (.tuple #[]) ∧ w' = (w.setCell ⟨b, o + 1 + p / 8, none⟩ (.int .u8 (pk (flip t.has p) (p / 8) : Int))).drew := by
  have hc := h.byte (p / 8) (by omega)
  have hv : bits BinOp.xor IntKind.u8 (pk t.has (p / 8) : Int) ((2 : Int) ^ (p % 8) % 256) = (pk (flip t.has p) (p / 8) : Int) := by
    have h2 : 2 ^ (p % 8) < 256 := Nat.lt_of_lt_of_le (Nat.pow_lt_pow_right (by omega) (show p % 8 < 8 by omega)) (by decide)
    have e : (2 : Int) ^ (p % 8) % 256 = ((2 ^ (p % 8) : Nat) : Int) := by
      rw [show (2 : Int) ^ (p % 8) = ((2 ^ (p % 8) : Nat) : Int) by rw [Int.natCast_pow]; rfl]
      generalize 2 ^ (p % 8) = q at h2 ⊢
      omega
    rw [e, u8_xor_nat _ _ (pk_lt _ _) h2, pk_flip]
  have HV := Lib.hid hv
  clear hv
  have hw : IntKind.i64.wrap ((p : Int) / 8) = (p : Int) / 8 := by rw [IntKind.wrap_i64]; omega
  have hm : (p : Int).tmod 8 = (p : Int) % 8 := Int.tmod_eq_emod_of_nonneg (by omega)
  have j1 : (0 : Int) ≤ (p : Int) / 8 := by omega
  have j2 : (p : Int) / 8 < 512 := by omega
  have j3 : ((p : Int) / 8).toNat = p / 8 := by omega
  have j4 : (0 : Int) ≤ (p : Int) % 8 := by omega
  have j5 : ((p : Int) % 8).toNat = p % 8 := by omega
  clear h
  go_enter Tryz.func95, Tryz.ntmps95
  go_wp2_with fail
  go_still_tail 14, (by kernel_rfl)
  change wpList _ _ _ _ _ w.drew
  go_wp2
  rw [HV.out]
  first | go_end0 | (simp only [Exit.inBlock, Exit.then]; refine bodyPost_ret (results_none rfl _ _ _) rfl ?_) | refine bodyPost_ret (results_none rfl _ _ _) rfl ?_
  exact ⟨rfl, rfl⟩
end Go.Proofs.YtnpebfolmdbipaaGreatDoor.Sk

namespace Go.Proofs.YtnpebfolmdbipaaGreatDoor.Sk
set_option maxRecDepth 8000
set_option linter.unusedVariables false
set_option linter.unusedSimpArgs false
open Go.RowKit Mem

/-! ### A store, as data -/
abbrev Pages := Nat → Option (List UInt8)
def Pages.put (f : Pages) (p : Nat) (o : Option (List UInt8)) : Pages := fun q => if q = p then o else f q
theorem put_same (f : Pages) (p : Nat) (o : Option (List UInt8)) : f.put p o p = o := by simp [Pages.put]
theorem put_other (f : Pages) {p q : Nat} (o : Option (List UInt8)) (h : q ≠ p) : f.put p o q = f q := by simp [Pages.put, h]
theorem put_back (f : Pages) (p : Nat) (o : Option (List UInt8)) : (f.put p o).put p (f p) = f := by
  funext q; unfold Pages.put; split
  · rename_i h; rw [h]
  · rfl
/-- What a change is: the state, and what pages hold that were taken in it. -/
structure Vw where
  now : Sta
  fresh : Pages
/-- How something is taken back. -/
inductive Un where
  | drop (p : Nat)
  | give (p : Nat) (o : Option (List UInt8))
  | root (r : Nat)
def Un.app (v : Vw) : Un → Vw
  | .drop p => ⟨v.now.turn p, v.fresh.put p none⟩
  | .give p (some l) => ⟨v.now.turn p, v.fresh.put p (some l)⟩
  | .give p none => ⟨v.now.turn p, v.fresh⟩
  | .root r => ⟨{ v.now with root := r }, v.fresh⟩
structure Sto where
  n : Nat
  cur : Vw
  kept : Sta
  changed : Bool
  marks : List (Nat × Bool)
  us : List (Un × Vw)
  inForce : Nat
  stamp : Nat
  dead : Bool
/-- A change of nothing, ahead of which t was. -/
def Vw.base (t : Sta) : Vw := ⟨t, fun _ => none⟩
def Sto.begin (s : Sto) (t : Sta) : Sto := { s with cur := Vw.base t, kept := t, changed := false, marks := [], us := [] }
/-- What the change was when k things had been done since the first mark. -/
def Sto.view (s : Sto) (k : Nat) : Vw := match s.us[k]? with
  | some x => x.2
  | none => s.cur
def Sto.did (s : Sto) (u : Un) (v : Vw) : Sto := { s with cur := v, changed := true, us := if s.marks = [] then s.us else s.us ++ [(u, s.cur)] }
/-- A page is free. -/
def Sto.free (s : Sto) (p : Nat) : Bool := !s.cur.now.has p && !s.kept.has p
def Sto.hold (s : Sto) (p : Nat) (l : List UInt8) : Vw := ⟨s.cur.now.turn p, s.cur.fresh.put p (some l)⟩
def Sto.drop (s : Sto) (p : Nat) : Vw := ⟨s.cur.now.turn p, s.cur.fresh.put p none⟩
def Sto.take (s : Sto) (p : Nat) (l : List UInt8) : Sto := s.did (.drop p) (s.hold p l)
def Sto.give (s : Sto) (p : Nat) : Sto := s.did (.give p (s.cur.fresh p)) (s.drop p)
def Sto.setRoot (s : Sto) (p : Nat) : Sto := s.did (.root s.cur.now.root) ⟨{ s.cur.now with root := p }, s.cur.fresh⟩
def Sto.mark (s : Sto) : Sto := { s with marks := s.marks ++ [(s.us.length, s.changed)] }
def Sto.back (s : Sto) (m : Nat) : Sto := match s.marks[m]? with
  | some x => { s with cur := s.view x.1, us := s.us.take x.1, marks := s.marks.take (m + 1), changed := x.2 }
  | none => s

/-- A view is one that may be. -/
structure VwOk (n : Nat) (k : Sta) (v : Vw) : Prop where
  has : ∀ p, v.now.has p = true → 2 ≤ p ∧ p < n
  root : v.now.root = 0 ∨ v.now.has v.now.root = true
  fresh : ∀ p, v.fresh p ≠ none ↔ v.now.has p = true ∧ k.has p = false
  len : ∀ p l, v.fresh p = some l → l.length ≤ 4011
structure StaOk (n : Nat) (t : Sta) : Prop where
  has : ∀ p, t.has p = true → 2 ≤ p ∧ p < n
  root : t.root = 0 ∨ t.has t.root = true
theorem base_ok {n : Nat} {t : Sta} (h : StaOk n t) : VwOk n t (Vw.base t) :=
  ⟨h.has, h.root, fun p => by simp [Vw.base], fun p l e => by simp [Vw.base] at e⟩
theorem VwOk.sta {n : Nat} {k : Sta} {v : Vw} (h : VwOk n k v) : StaOk n v.now := ⟨h.has, h.root⟩
structure SGood (s : Sto) : Prop where
  n4 : 4 ≤ s.n
  n5 : s.n ≤ 4096
  kept : StaOk s.n s.kept
  view : ∀ k, VwOk s.n s.kept (s.view k)
  chain : ∀ (k : Nat) (x : Un × Vw), s.us[k]? = some x → x.1.app (s.view (k + 1)) = x.2
  mark : ∀ (i : Nat) (x : Nat × Bool), s.marks[i]? = some x → x.1 ≤ s.us.length
  mono : ∀ (i j : Nat) (x y : Nat × Bool), i ≤ j → s.marks[i]? = some x → s.marks[j]? = some y → x.1 ≤ y.1
  none : s.marks = [] → s.us = []
  same : s.changed = false → s.cur = Vw.base s.kept
  markSame : ∀ (i : Nat) (x : Nat × Bool), s.marks[i]? = some x → x.2 = false → s.view x.1 = Vw.base s.kept
  force : s.inForce < 2
  stamp : s.stamp < 18446744073709551616

theorem view_len (s : Sto) : s.view s.us.length = s.cur := by
  unfold Sto.view; rw [List.getElem?_eq_none (Nat.le_refl _)]
theorem SGood.cur {s : Sto} (h : SGood s) : VwOk s.n s.kept s.cur := view_len s ▸ h.view s.us.length
theorem did_view (s : Sto) (u : Un) (v : Vw) (hm : s.marks ≠ []) (k : Nat) : (s.did u v).view k = if k ≤ s.us.length then s.view k else v := by
  unfold Sto.view Sto.did
  simp only [if_neg hm]
  rcases Nat.lt_trichotomy k s.us.length with h | h | h
  · rw [if_pos (by omega), List.getElem?_append_left h]
    rw [List.getElem?_eq_getElem h]
  · subst h
    rw [if_pos (Nat.le_refl _), List.getElem?_append_right (Nat.le_refl _), Nat.sub_self, List.getElem?_eq_none (Nat.le_refl _)]
    rfl
  · rw [if_neg (by omega), List.getElem?_eq_none (by simp; omega)]
theorem did_good {s : Sto} (h : SGood s) (u : Un) (v : Vw) (hv : VwOk s.n s.kept v) (hu : u.app v = s.cur) : SGood (s.did u v) := by
  by_cases hm : s.marks = []
  · have hus := h.none hm
    have hvw : ∀ k, (s.did u v).view k = v := fun k => by unfold Sto.view Sto.did; simp [hm, hus]
    have e : (s.did u v).us = [] := by simp [Sto.did, hm, hus]
    have em : (s.did u v).marks = [] := hm
    exact { n4 := h.n4, n5 := h.n5, kept := h.kept, force := h.force, stamp := h.stamp
            view := fun k => by rw [hvw k]; exact hv
            chain := fun k x hx => by rw [e] at hx; simp at hx
            mark := fun i x hx => by rw [em] at hx; simp at hx
            mono := fun i j x y _ hx => by rw [em] at hx; simp at hx
            none := fun _ => e
            same := fun hc => by cases hc
            markSame := fun i x hx => by rw [em] at hx; simp at hx }
  · have hvw := did_view s u v hm
    have e : (s.did u v).us = s.us ++ [(u, s.cur)] := if_neg hm
    have em : (s.did u v).marks = s.marks := rfl
    exact { n4 := h.n4, n5 := h.n5, kept := h.kept, force := h.force, stamp := h.stamp
            view := fun k => by
              rw [hvw k]; split
              · exact h.view k
              · exact hv
            chain := fun k x hx => by
              rw [e] at hx
              rw [hvw (k + 1)]
              by_cases hk : k < s.us.length
              · rw [List.getElem?_append_left hk] at hx
                rw [if_pos (by omega)]
                exact h.chain k x hx
              · have hk2 : k = s.us.length := by
                  have := (List.getElem?_eq_some_iff.1 hx).1
                  simp at this; omega
                subst hk2
                rw [List.getElem?_append_right (Nat.le_refl _), Nat.sub_self] at hx
                injection hx with hx
                subst hx
                rw [if_neg (by omega)]
                exact hu
            mark := fun i x hx => by
              have := h.mark i x hx
              rw [e, List.length_append]; simp; omega
            mono := h.mono
            none := fun e2 => absurd e2 hm
            same := fun hc => by cases hc
            markSame := fun i x hx hx2 => by
              rw [hvw, if_pos (h.mark i x hx)]
              exact h.markSame i x hx hx2 }
theorem begin_good {s : Sto} (h : SGood s) (t : Sta) (ht : StaOk s.n t) : SGood (s.begin t) :=
  { n4 := h.n4, n5 := h.n5, kept := ht, force := h.force, stamp := h.stamp
    view := fun k => base_ok ht
    chain := fun k x hx => by simp [Sto.begin] at hx
    mark := fun i x hx => by simp [Sto.begin] at hx
    mono := fun i j x y _ hx => by simp [Sto.begin] at hx
    none := fun _ => rfl
    same := fun _ => rfl
    markSame := fun i x hx => by simp [Sto.begin] at hx }
theorem turn_turn (t : Sta) (p : Nat) : (t.turn p).turn p = t := by
  cases t; simp [Sta.turn, flip_flip]
theorem take_good {s : Sto} (h : SGood s) {p : Nat} (h2 : 2 ≤ p) (hp : p < s.n) (hf : s.free p = true) (l : List UInt8) (hl : l.length ≤ 4011) : SGood (s.take p l) := by
  simp only [Sto.free, Bool.and_eq_true, Bool.not_eq_true'] at hf
  have hc := h.cur
  have hno : s.cur.fresh p = none := by
    rcases hq : s.cur.fresh p with _ | l'
    · rfl
    · have := ((hc.fresh p).1 (by rw [hq]; simp)).1
      rw [hf.1] at this; cases this
  refine did_good h _ _ ⟨?_, ?_, ?_, ?_⟩ ?_
  · intro q hq
    by_cases e : q = p
    · subst e; exact ⟨h2, hp⟩
    · exact hc.has q (by simpa [Sto.hold, Sta.turn, flip_other _ e] using hq)
  · rcases hc.root with hr | hr
    · exact .inl hr
    · refine .inr ?_
      have e : s.cur.now.root ≠ p := fun e => by rw [e, hf.1] at hr; cases hr
      simpa [Sto.hold, Sta.turn, flip_other _ e] using hr
  · intro q
    by_cases e : q = p
    · subst e
      simp [Sto.hold, put_same, Sta.turn, flip_same, hf]
    · have := hc.fresh q
      simpa [Sto.hold, put_other _ _ e, Sta.turn, flip_other _ e] using this
  · intro q l' hq
    by_cases e : q = p
    · subst e
      simp only [Sto.hold, put_same, Option.some.injEq] at hq
      rw [← hq]; exact hl
    · exact hc.len q l' (by simpa [Sto.hold, put_other _ _ e] using hq)
  · show (⟨(s.cur.now.turn p).turn p, (s.cur.fresh.put p (some l)).put p none⟩ : Vw) = s.cur
    rw [turn_turn, ← hno, put_back]
theorem give_good {s : Sto} (h : SGood s) {p : Nat} (hp : s.cur.now.has p = true) (hr : p ≠ s.cur.now.root) : SGood (s.give p) := by
  have hc := h.cur
  refine did_good h _ _ ⟨?_, ?_, ?_, ?_⟩ ?_
  · intro q hq
    by_cases e : q = p
    · subst e; exact hc.has q hp
    · exact hc.has q (by simpa [Sto.drop, Sta.turn, flip_other _ e] using hq)
  · rcases hc.root with hr' | hr'
    · exact .inl hr'
    · refine .inr ?_
      have e : s.cur.now.root ≠ p := fun e => hr e.symm
      simpa [Sto.drop, Sta.turn, flip_other _ e] using hr'
  · intro q
    by_cases e : q = p
    · subst e
      simp [Sto.drop, put_same, Sta.turn, flip_same, hp]
    · have := hc.fresh q
      simpa [Sto.drop, put_other _ _ e, Sta.turn, flip_other _ e] using this
  · intro q l' hq
    by_cases e : q = p
    · subst e
      simp [Sto.drop, put_same] at hq
    · exact hc.len q l' (by simpa [Sto.drop, put_other _ _ e] using hq)
  · rcases hf : s.cur.fresh p with _ | l
    · show (⟨(s.cur.now.turn p).turn p, s.cur.fresh.put p none⟩ : Vw) = s.cur
      have : s.cur.fresh.put p none = s.cur.fresh := by
        funext q; unfold Pages.put; split
        · rename_i e; rw [e, hf]
        · rfl
      rw [turn_turn, this]
    · show (⟨(s.cur.now.turn p).turn p, (s.cur.fresh.put p none).put p (some l)⟩ : Vw) = s.cur
      rw [turn_turn, ← hf, put_back]
theorem setRoot_good {s : Sto} (h : SGood s) {p : Nat} (hp : p = 0 ∨ s.cur.now.has p = true) : SGood (s.setRoot p) := by
  have hc := h.cur
  exact did_good h _ _ ⟨hc.has, hp, hc.fresh, hc.len⟩ rfl
theorem mark_good {s : Sto} (h : SGood s) : SGood s.mark := by
  have hm : ∀ i x, s.mark.marks[i]? = some x → s.marks[i]? = some x ∨ x = (s.us.length, s.changed) ∧ i = s.marks.length := fun i x hx => by
    by_cases hi : i < s.marks.length
    · exact .inl (by rwa [show s.mark.marks = s.marks ++ [(s.us.length, s.changed)] from rfl, List.getElem?_append_left hi] at hx)
    · refine .inr ?_
      have hlt := (List.getElem?_eq_some_iff.1 hx).1
      have e : i = s.marks.length := by simp [Sto.mark] at hlt; omega
      subst e
      rw [show s.mark.marks = s.marks ++ [(s.us.length, s.changed)] from rfl, List.getElem?_append_right (Nat.le_refl _), Nat.sub_self] at hx
      injection hx with hx
      exact ⟨hx.symm, rfl⟩
  exact { n4 := h.n4, n5 := h.n5, kept := h.kept, force := h.force, stamp := h.stamp, view := h.view, chain := h.chain, same := h.same
          none := fun e => by simp [Sto.mark] at e
          mark := fun i x hx => by
            rcases hm i x hx with hx | ⟨rfl, _⟩
            · exact h.mark i x hx
            · exact Nat.le_refl _
          mono := fun i j x y hij hx hy => by
            rcases hm i x hx with hx | ⟨rfl, hi⟩ <;> rcases hm j y hy with hy | ⟨rfl, hj⟩
            · exact h.mono i j x y hij hx hy
            · exact h.mark i x hx
            · have := (List.getElem?_eq_some_iff.1 hy).1; omega
            · exact Nat.le_refl _
          markSame := fun i x hx hx2 => by
            rcases hm i x hx with hx | ⟨rfl, _⟩
            · exact h.markSame i x hx hx2
            · exact (view_len s).trans (h.same hx2) }
theorem back_view {s : Sto} (h : SGood s) {m : Nat} {x : Nat × Bool} (hx : s.marks[m]? = some x) (k : Nat) : (s.back m).view k = if k ≤ x.1 then s.view k else s.view x.1 := by
  have hle := h.mark m x hx
  unfold Sto.back
  simp only [hx]
  unfold Sto.view
  simp only
  by_cases hk : k < x.1
  · rw [List.getElem?_take_of_lt hk, if_pos (by omega), List.getElem?_eq_getElem (by omega)]
  · rw [List.getElem?_eq_none (by rw [List.length_take]; omega)]
    by_cases hk2 : k ≤ x.1
    · have : k = x.1 := by omega
      rw [if_pos hk2, this]
    · rw [if_neg hk2]
theorem back_good {s : Sto} (h : SGood s) {m : Nat} (hm : m < s.marks.length) : SGood (s.back m) := by
  obtain ⟨x, hx⟩ : ∃ x, s.marks[m]? = some x := ⟨_, List.getElem?_eq_getElem hm⟩
  have hv := back_view h hx
  have hle := h.mark m x hx
  have e : s.back m = { s with cur := s.view x.1, us := s.us.take x.1, marks := s.marks.take (m + 1), changed := x.2 } := by unfold Sto.back; rw [hx]
  have hmk : ∀ i y, (s.back m).marks[i]? = some y → i ≤ m ∧ s.marks[i]? = some y := fun i y hy => by
    rw [e] at hy
    have hlt := (List.getElem?_eq_some_iff.1 hy).1
    rw [List.length_take] at hlt
    rw [List.getElem?_take_of_lt (by omega)] at hy
    exact ⟨by omega, hy⟩
  have hus : (s.back m).us = s.us.take x.1 := by rw [e]
  have en : (s.back m).n = s.n := by rw [e]
  have ek : (s.back m).kept = s.kept := by rw [e]
  exact { n4 := by rw [en]; exact h.n4, n5 := by rw [en]; exact h.n5, kept := by rw [en, ek]; exact h.kept
          force := by rw [e]; exact h.force, stamp := by rw [e]; exact h.stamp
          view := fun k => by
            rw [hv k, en, ek]; split
            · exact h.view k
            · exact h.view _
          chain := fun k y hy => by
            rw [hus] at hy
            have hlt := (List.getElem?_eq_some_iff.1 hy).1
            rw [List.length_take] at hlt
            rw [List.getElem?_take_of_lt (by omega)] at hy
            rw [hv, if_pos (by omega)]
            exact h.chain k y hy
          mark := fun i y hy => by
            obtain ⟨h1, h2⟩ := hmk i y hy
            have := h.mono i m y x h1 h2 hx
            rw [hus, List.length_take]; omega
          mono := fun i j y z hij hy hz => h.mono i j y z hij (hmk i y hy).2 (hmk j z hz).2
          none := fun e2 => by
            rw [e] at e2
            have := congrArg List.length e2
            rw [List.length_take, List.length_nil] at this
            omega
          same := fun hc => by
            rw [e] at hc ⊢
            exact h.markSame m x hx hc
          markSame := fun i y hy hy2 => by
            obtain ⟨h1, h2⟩ := hmk i y hy
            have := h.mono i m y x h1 h2 hx
            rw [hv, if_pos this, ek]
            exact h.markSame i y h2 hy2 }
end Go.Proofs.YtnpebfolmdbipaaGreatDoor.Sk

namespace Go.Proofs.YtnpebfolmdbipaaGreatDoor.Sk
set_option maxRecDepth 8000
set_option linter.unusedVariables false
set_option linter.unusedSimpArgs false
open Go.RowKit Mem Go.ChangeMaps
open Dk (cod elem cod_inj elem_mk elem_inv key key_inj wf_key keyed3 MapIs Fr ptr)

/-! ### The map of pages, its keys numbers of pages -/
def MapN (w : World) (b m : Nat) (V : Nat → Option Value) : Prop :=
  ∃ D zd, cod (.slice none 0 0) = some zd ∧ w.ownsMap Tryz.prog 3 elem b m D ∧ (∀ k : Nat, k < 4611686018427387904 → Maps.has D (key k) = (V k).isSome ∧ cod ((V k).getD (.slice none 0 0)) = some (D.atKey (key k) zd)) ∧ ∀ x : Int, Maps.has D (.int .i64 x) = true → 0 ≤ x ∧ x < 4096
section
variable {w : World} {b m : Nat} {V : Nat → Option Value}
theorem MapN.is (h : MapN w b m V) : MapIs w b m (.slice none 0 0) V := by obtain ⟨D, zd, h1, h2, h3, _⟩ := h; exact ⟨D, zd, h1, h2, h3⟩
theorem MapN.made (w : World) : MapN (w.alloc (.map #[] 0)) w.heap.size 0 (fun _ => none) :=
  ⟨.map [], _, rfl, World.ownsMap_made w Tryz.prog 3 elem, fun k _ => ⟨rfl, rfl⟩, fun x hx => by cases hx⟩
theorem MapN.lt (h : MapN w b m V) : b < w.heap.size := h.is.lt
theorem MapN.mono (h : MapN w b m V) {m' : Nat} (hm : m ≤ m') : MapN w b m' V := by obtain ⟨D, zd, hz, ho, hv⟩ := h; exact ⟨D, zd, hz, ho.mono hm, hv⟩
theorem MapN.of_block {w' : World} (h : MapN w b m V) (e : w'.heap[b]? = w.heap[b]?) : MapN w' b m V := by
  obtain ⟨D, zd, hz, ⟨es, cl, hb, r⟩, hv⟩ := h
  exact ⟨D, zd, hz, ⟨es, cl, e.trans hb, r⟩, hv⟩
theorem lit_ne {x : Int} {k : Nat} (h : x ≠ (k : Int)) : Lit.int .i64 x ≠ key k := by intro e; injection e with _ e2; exact h e2
theorem MapN.store (h : MapN w b m V) (hm : m < maxLen) (k : Nat) (hk : k < 4096) (v : Value) {z : DataW Unit} (hv : cod v = some z) :
    ∃ w', (Instr.mapUpdate 83 (.map (some b)) (.int .i64 k) v).run Tryz.prog w = .ok () w' ∧ MapN w' b (m + 1) (fun j => if j = k then some v else V j) ∧ w.mapTurned w' b := by
  obtain ⟨D, zd, hzd, ho, hV, hB⟩ := h
  have hkey := Maps.keyOf_int_mk Tryz.underlying3 (wf_key k (by omega))
  obtain ⟨w', hrun, ho', hg⟩ := ho.store keyed3 Tryz.underlying83 hm hkey (elem_mk hv)
  have hI := ho.isMap
  refine ⟨w', hrun, ⟨_, zd, hzd, ho', fun j hj => ?_, fun x hx => ?_⟩, hg⟩
  · by_cases e : j = k
    · subst e
      show Maps.has _ _ = (if j = j then some v else V j).isSome ∧ cod ((if j = j then some v else V j).getD _) = _
      rw [if_pos rfl, Maps.has_put_same hI (keyed3.key hkey), Maps.atKey_put_same hI (keyed3.key hkey)]
      exact ⟨rfl, hv⟩
    · show Maps.has _ _ = (if j = k then some v else V j).isSome ∧ cod ((if j = k then some v else V j).getD _) = _
      rw [if_neg e, Maps.has_put_other (key_inj e), Maps.atKey_put_other (key_inj e)]
      exact hV j hj
  · by_cases e : x = (k : Int)
    · omega
    · rw [Maps.has_put_other (lit_ne e)] at hx
      exact hB x hx
theorem MapN.drop (h : MapN w b m V) (k : Nat) (hk : k < 4096) (ty : TypeId) :
    ∃ w', (Builtin.delete_ #[83, 3] ty #[.map (some b), .int .i64 k]).run Tryz.prog w = .ok (.tuple #[]) w' ∧ MapN w' b m (fun j => if j = k then none else V j) ∧ w.mapTurned w' b := by
  obtain ⟨D, zd, hzd, ho, hV, hB⟩ := h
  have hkey := Maps.keyOf_int_mk Tryz.underlying3 (wf_key k (by omega))
  obtain ⟨w', hrun, ho', hg⟩ := ho.drop keyed3 Tryz.underlying83 hkey ty
  refine ⟨w', hrun, ⟨_, zd, hzd, ho', fun j hj => ?_, fun x hx => ?_⟩, hg⟩
  · by_cases e : j = k
    · subst e
      show Maps.has _ _ = (if j = j then none else V j).isSome ∧ cod ((if j = j then none else V j).getD _) = _
      rw [if_pos rfl, Maps.has_del_same, Maps.atKey_del_same]
      exact ⟨rfl, hzd⟩
    · show Maps.has _ _ = (if j = k then none else V j).isSome ∧ cod ((if j = k then none else V j).getD _) = _
      rw [if_neg e, Maps.has_del_other (key_inj e), Maps.atKey_del_other (key_inj e)]
      exact hV j hj
  · by_cases e : x = (k : Int)
    · omega
    · rw [Maps.has_del_other (lit_ne e)] at hx
      exact hB x hx
end

/-! ### Where a store lies -/
inductive SRole where
  | store | fresh | undo | marks | const
structure SLay where
  fm : Nat
  m : Nat
  V : Nat → Option Value
  mv : Value
  uv : Value
  U : List Value
  role : Nat → Option SRole
def SLay.foot (y : SLay) (k : Nat) : Prop := y.role k ≠ none
/-- The marks' cells. -/
def mcs : List (Nat × Bool) → List Value
  | [] => []
  | x :: l => .int .i64 (x.1 : Int) :: .bool x.2 :: mcs l
/-- A store's cells. -/
def scell (y : SLay) (db : Nat) (s : Sto) (i : Nat) : Value :=
  if i < 513 then stc s.cur.now i else if i < 1026 then stc s.kept (i - 513) else
  if i = 1026 then .map (some y.fm) else if i = 1027 then .bool s.changed else if i = 1028 then y.mv else if i = 1029 then y.uv else
  if i = 1030 then ptr db else if i = 1031 then .int .i64 (s.inForce : Int) else if i = 1032 then .int .u64 (s.stamp : Int) else .bool s.dead
/-- A box that stays as it is. -/
def Box (w : World) (role : Nat → Option SRole) (k : Nat) (u : Value) : Prop := role k = some .const ∧ w.cell? ⟨k, 0, none⟩ = some u
/-- Bytes that stay as they are. -/
def SlAt (w : World) (role : Nat → Option SRole) (v : Value) (l : List UInt8) : Prop := Mem.Own 5 w 0 v l ∧ ∀ k, v.ownBlock = some k → role k = some .const
def FreshAt (w : World) (role : Nat → Option SRole) : Option Value → Option (List UInt8) → Prop
  | none, none => True
  | some v, some l => SlAt w role v l
  | _, _ => False
/-- A pointer to block k's first cell. -/
abbrev pt (k : Nat) : Value := .pointer (some ⟨k, 0, none⟩)
def UnAt (w : World) (role : Nat → Option SRole) (sb : Nat) (v : Value) : Un → Prop
  | .drop p => ∃ c q, v = .func (.func 92) #[] #[pt c, pt q] ∧ Box w role c (pt sb) ∧ Box w role q (.int .i64 (p : Int)) ∧ p < 4096
  | .give p o => ∃ f c q b sv, v = .func (.func 94) #[] #[pt f, pt c, pt q, pt b] ∧ Box w role f (.bool o.isSome) ∧ Box w role c (pt sb) ∧ Box w role q (.int .i64 (p : Int)) ∧ Box w role b sv ∧ (∀ l, o = some l → SlAt w role sv l) ∧ p < 4096
  | .root r => ∃ x c, v = .func (.func 96) #[] #[pt x, pt c] ∧ Box w role x (.int .i64 (r : Int)) ∧ Box w role c (pt sb)

/-- In world w the store s, whose disk lies at db, lies at block sb. -/
structure IsS (w : World) (sb : Nat) (y : SLay) (db : Nat) (s : Sto) : Prop where
  row : w.rowIs sb 89 1034 (scell y db s)
  map : MapN w y.fm y.m y.V
  freshOk : ∀ p, p < 4096 → FreshAt w y.role (y.V p) (s.cur.fresh p)
  marksOk : w.ownsRow 0 116 2 y.mv s.marks.length (mcs s.marks)
  undoOk : w.ownsRow 0 1 1 y.uv s.us.length y.U
  unAt : ∀ (i : Nat) (v : Value) (x : Un × Vw), y.U[i]? = some v → s.us[i]? = some x → UnAt w y.role sb v x.1
  rs : y.role sb = some .store
  rf : y.role y.fm = some .fresh
  rm : ∀ k, y.mv.ownBlock = some k → y.role k = some .marks
  ru : ∀ k, y.uv.ownBlock = some k → y.role k = some .undo
  foot : ∀ k, y.foot k → k < w.heap.size
  usLen : s.us.length ≤ y.m
  msLen : s.marks.length ≤ y.m

theorem SlAt.of_block {w w' : World} {role : Nat → Option SRole} {v : Value} {l : List UInt8} (h : SlAt w role v l) (hk : ∀ k, role k = some .const → w'.heap[k]? = w.heap[k]?) : SlAt w' role v l :=
  ⟨Dk.Own.of_block h.1 fun k e => hk k (h.2 k e), h.2⟩
theorem FreshAt.of_block {w w' : World} {role : Nat → Option SRole} {x : Option Value} {o : Option (List UInt8)} (h : FreshAt w role x o) (hk : ∀ k, role k = some .const → w'.heap[k]? = w.heap[k]?) : FreshAt w' role x o := by
  rcases x with _ | v <;> rcases o with _ | l
  · trivial
  · exact h
  · exact h
  · exact SlAt.of_block h hk
theorem Box.of_block {w w' : World} {role : Nat → Option SRole} {k : Nat} {u : Value} (h : Box w role k u) (hk : ∀ k, role k = some .const → w'.heap[k]? = w.heap[k]?) : Box w' role k u :=
  ⟨h.1, (World.cell?_of_block (w := w) (hk k h.1)).trans h.2⟩
theorem UnAt.of_block {w w' : World} {role : Nat → Option SRole} {sb : Nat} {v : Value} {u : Un} (h : UnAt w role sb v u) (hk : ∀ k, role k = some .const → w'.heap[k]? = w.heap[k]?) : UnAt w' role sb v u := by
  cases u with
  | drop p =>
    obtain ⟨c, q, e, h1, h2, h3⟩ := h
    exact ⟨c, q, e, h1.of_block hk, h2.of_block hk, h3⟩
  | give p o =>
    obtain ⟨f, c, q, b, sv, e, h1, h2, h3, h4, h5, h6⟩ := h
    exact ⟨f, c, q, b, sv, e, h1.of_block hk, h2.of_block hk, h3.of_block hk, h4.of_block hk, fun l e => (h5 l e).of_block hk, h6⟩
  | root r =>
    obtain ⟨x, c, e, h1, h2⟩ := h
    exact ⟨x, c, e, h1.of_block hk, h2.of_block hk⟩
/-- With more roles. -/
theorem SlAt.more {w : World} {role role' : Nat → Option SRole} {v : Value} {l : List UInt8} (h : SlAt w role v l) (hr : ∀ k, role k = some .const → role' k = some .const) : SlAt w role' v l := ⟨h.1, fun k e => hr k (h.2 k e)⟩
theorem FreshAt.more {w : World} {role role' : Nat → Option SRole} {x : Option Value} {o : Option (List UInt8)} (h : FreshAt w role x o) (hr : ∀ k, role k = some .const → role' k = some .const) : FreshAt w role' x o := by
  rcases x with _ | v <;> rcases o with _ | l
  · trivial
  · exact h
  · exact h
  · exact SlAt.more h hr
theorem Box.more {w : World} {role role' : Nat → Option SRole} {k : Nat} {u : Value} (h : Box w role k u) (hr : ∀ k, role k = some .const → role' k = some .const) : Box w role' k u := ⟨hr k h.1, h.2⟩
theorem UnAt.more {w : World} {role role' : Nat → Option SRole} {sb : Nat} {v : Value} {u : Un} (h : UnAt w role sb v u) (hr : ∀ k, role k = some .const → role' k = some .const) : UnAt w role' sb v u := by
  cases u with
  | drop p =>
    obtain ⟨c, q, e, h1, h2, h3⟩ := h
    exact ⟨c, q, e, h1.more hr, h2.more hr, h3⟩
  | give p o =>
    obtain ⟨f, c, q, b, sv, e, h1, h2, h3, h4, h5, h6⟩ := h
    exact ⟨f, c, q, b, sv, e, h1.more hr, h2.more hr, h3.more hr, h4.more hr, fun l e => (h5 l e).more hr, h6⟩
  | root r =>
    obtain ⟨x, c, e, h1, h2⟩ := h
    exact ⟨x, c, e, h1.more hr, h2.more hr⟩

section
variable {w w' : World} {sb db : Nat} {y : SLay} {s : Sto}
theorem IsS.keep (h : IsS w sb y db s) (hs : w.heap.size ≤ w'.heap.size) (hk : ∀ k, y.foot k → w'.heap[k]? = w.heap[k]?) : IsS w' sb y db s :=
  have hf : ∀ {k r}, y.role k = some r → w'.heap[k]? = w.heap[k]? := fun e => hk _ (by simp [SLay.foot, e])
  { h with
    row := h.row.of_block (hf h.rs), map := h.map.of_block (hf h.rf)
    freshOk := fun p hp => (h.freshOk p hp).of_block fun k e => hf e
    marksOk := Dk.owns_of_block h.marksOk fun k e => hf (h.rm k e)
    undoOk := Dk.owns_of_block h.undoOk fun k e => hf (h.ru k e)
    unAt := fun i v x h1 h2 => (h.unAt i v x h1 h2).of_block fun k e => hf e
    foot := fun k e => Nat.lt_of_lt_of_le (h.foot k e) hs }
theorem IsS.fr {F : Nat → Prop} (h : IsS w sb y db s) (hf : Fr F w w') (hF : ∀ k, y.foot k → ¬ F k) : IsS w' sb y db s := h.keep hf.size fun k hk => hf.block k (h.foot k hk) (hF k hk)
theorem IsS.below (h : IsS w sb y db s) (hb : Below w.heap.size w w') : IsS w' sb y db s := h.keep hb.size fun k hk => hb.block k (h.foot k hk)
theorem IsS.alloc (h : IsS w sb y db s) (o : Obj) : IsS (w.alloc o) sb y db s := h.keep (by simp) fun k hk => Below.heap_alloc _ _ _ (h.foot k hk)
theorem IsS.drew (h : IsS w sb y db s) : IsS w.drew sb y db s := h.keep (Nat.le_refl _) fun _ _ => rfl
theorem IsS.drewN (h : IsS w sb y db s) (n : Nat) : IsS (w.drewN n) sb y db s := h.keep (by rw [show (w.drewN n).heap = w.heap from (World.drewN_alike w n).1]; exact Nat.le_refl _) fun _ _ => by rw [show (w.drewN n).heap = w.heap from (World.drewN_alike w n).1]
theorem IsS.fsb (h : IsS w sb y db s) : y.foot sb := by simp [SLay.foot, h.rs]
theorem IsS.ffm (h : IsS w sb y db s) : y.foot y.fm := by simp [SLay.foot, h.rf]
theorem IsS.now (h : IsS w sb y db s) : StaAt w sb 0 s.cur.now := fun j hj => by
  rw [Nat.zero_add, h.row.cell (by omega)]; unfold scell; rw [if_pos hj]
theorem IsS.kept (h : IsS w sb y db s) : StaAt w sb 513 s.kept := fun j hj => by
  rw [h.row.cell (by omega)]; unfold scell; rw [if_neg (by omega), if_pos (by omega)]
  congr 2; omega
theorem IsS.cfresh (h : IsS w sb y db s) : w.cell? ⟨sb, 1026, none⟩ = some (.map (some y.fm)) := h.row.cell (by omega)
theorem IsS.cchanged (h : IsS w sb y db s) : w.cell? ⟨sb, 1027, none⟩ = some (.bool s.changed) := h.row.cell (by omega)
theorem IsS.cmarks (h : IsS w sb y db s) : w.cell? ⟨sb, 1028, none⟩ = some y.mv := h.row.cell (by omega)
theorem IsS.cundo (h : IsS w sb y db s) : w.cell? ⟨sb, 1029, none⟩ = some y.uv := h.row.cell (by omega)
theorem IsS.cdisk (h : IsS w sb y db s) : w.cell? ⟨sb, 1030, none⟩ = some (ptr db) := h.row.cell (by omega)
theorem IsS.cforce (h : IsS w sb y db s) : w.cell? ⟨sb, 1031, none⟩ = some (.int .i64 (s.inForce : Int)) := h.row.cell (by omega)
theorem IsS.cstamp (h : IsS w sb y db s) : w.cell? ⟨sb, 1032, none⟩ = some (.int .u64 (s.stamp : Int)) := h.row.cell (by omega)
theorem IsS.cdead (h : IsS w sb y db s) : w.cell? ⟨sb, 1033, none⟩ = some (.bool s.dead) := h.row.cell (by omega)
theorem IsS.croot (h : IsS w sb y db s) : w.cell? ⟨sb, 0, none⟩ = some (.int .i64 (s.cur.now.root : Int)) := h.now.root
theorem IsS.frozen (h : IsS w sb y db s) (i : Nat) : w.frozen? ⟨sb, i, none⟩ = false := h.row.frozen i
theorem IsS.ne_fm (h : IsS w sb y db s) : sb ≠ y.fm := fun e => by have := h.rs; rw [e, h.rf] at this; cases this
theorem IsS.ne_const (h : IsS w sb y db s) {k : Nat} (hk : y.role k = some .const) : k ≠ sb ∧ k ≠ y.fm :=
  ⟨fun e => (by rw [e, h.rs] at hk; cases hk), fun e => (by rw [e, h.rf] at hk; cases hk)⟩
/-- Another datum in the store's own row: all that lies elsewhere is as it was. -/
theorem IsS.setRow (h : IsS w sb y db s) {w' : World} {s' : Sto} (hs : w.heap.size ≤ w'.heap.size) (hrow : w'.rowIs sb 89 1034 (scell y db s')) (hk : ∀ k, k ≠ sb → y.foot k → w'.heap[k]? = w.heap[k]?)
    (e1 : s'.cur.fresh = s.cur.fresh) (e2 : s'.marks = s.marks) (e3 : s'.us = s.us) : IsS w' sb y db s' :=
  have hf : ∀ {k r}, y.role k = some r → r ≠ .store → w'.heap[k]? = w.heap[k]? := fun e hr => hk _ (fun e2 => by rw [e2, h.rs] at e; cases e; exact hr rfl) (by simp [SLay.foot, e])
  { row := hrow, map := h.map.of_block (hf h.rf (by simp))
    freshOk := fun p hp => by rw [e1]; exact (h.freshOk p hp).of_block fun k e => hf e (by simp)
    marksOk := by rw [e2]; exact Dk.owns_of_block h.marksOk fun k e => hf (h.rm k e) (by simp)
    undoOk := by rw [e3]; exact Dk.owns_of_block h.undoOk fun k e => hf (h.ru k e) (by simp)
    unAt := fun i v x h1 h2 => by rw [e3] at h2; exact (h.unAt i v x h1 h2).of_block fun k e => hf e (by simp)
    rs := h.rs, rf := h.rf, rm := h.rm, ru := h.ru
    foot := fun k e => Nat.lt_of_lt_of_le (h.foot k e) hs
    usLen := by rw [e3]; exact h.usLen
    msLen := by rw [e2]; exact h.msLen }
end
/-- What a call may turn: nothing but blocks of F; the new foot G is of F, or new. -/
structure Kf (F : Nat → Prop) (w w' : World) (G : Nat → Prop) : Prop where
  fr : Fr F w w'
  foot : ∀ k, k < w.heap.size → G k → F k
theorem Kf.refl (F : Nat → Prop) (w : World) : Kf F w w F := ⟨Fr.refl _ _, fun _ _ h => h⟩
theorem Kf.trans {a w w' : World} {F G H : Nat → Prop} (h : Kf F a w G) (k : Kf G w w' H) : Kf F a w' H :=
  ⟨h.fr.trans k.fr fun b hb hf => h.foot b hb hf, fun b hb hf => h.foot b hb (k.foot b (Nat.lt_of_lt_of_le hb h.fr.size) hf)⟩
theorem Kf.same {w w' : World} {F : Nat → Prop} (h : Fr F w w') : Kf F w w' F := ⟨h, fun _ _ h => h⟩
theorem Kf.free {w w' : World} {F G : Nat → Prop} (h : Kf F w w' G) {k : Nat} (hk : k < w.heap.size) (hf : ¬ F k) : ¬ G k ∧ w'.heap[k]? = w.heap[k]? := ⟨fun e => hf (h.foot k hk e), h.fr.block k hk hf⟩
theorem Kf.low {w w' : World} {F G : Nat → Prop} {B : Nat} (h : Kf F w w' G) (hB : B ≤ w.heap.size) (hy : ∀ k, F k → B ≤ k) : ∀ k, G k → B ≤ k := fun k hk => by
  rcases Nat.lt_or_ge k w.heap.size with h1 | h1
  · exact hy k (h.foot k h1 hk)
  · omega
theorem Kf.ofKp {w w' : World} {y y' : Dk.Lay} (h : Dk.Kp w y w' y') : Kf y.foot w w' y'.foot := ⟨h.fr, h.foot⟩
theorem Kf.ofBelow {w w' : World} (F : Nat → Prop) (h : Below w.heap.size w w') : Kf F w w' F := Kf.same (Fr.ofBelow h)
end Go.Proofs.YtnpebfolmdbipaaGreatDoor.Sk

namespace Go.Proofs.YtnpebfolmdbipaaGreatDoor.Sk
set_option maxRecDepth 8000
set_option linter.unusedVariables false
set_option linter.unusedSimpArgs false
open Go.RowKit Mem Go.ChangeMaps
open Dk (cod elem cod_inj elem_mk elem_inv key key_inj wf_key keyed3 MapIs Fr ptr)

/-- Append to a row of one's own, elements of any size. -/
theorem wpList_append_row {t e : TypeId} {z : Value} {size bytes : Nat} (ht : Tryz.prog.underlying t = some (.slice e)) (hi : (Tryz.prog.info? e).map (fun i => (i.zero, i.size, i.bytes)) = some (some z, size, bytes)) (hzs : z.cells.size = size) (hsz : 0 < size)
    {ops : Array Oper} {rest : List Oper} {o : Oper} {a : Act} {w : World} {Q : Exit → Act → World → Prop} (hgd : o.guard = none) (s x : Operand)
    (ho : o.op = .call { callee := .builtin .append, args := #[s, x], argTypes := #[t, t] })
    (base : Nat) (v : Value) (n : Nat) (xs : List Value) (hs : a.eval s = v) (hown : w.ownsRow base e size v n xs)
    (ad : Addr) (m c : Nat) (news : List Value) (hx : a.eval x = .slice (some ad) m c) (hl : news.length = m * size) (hnews : ∀ j u, news[j]? = some u → w.cell? (ad.add j) = some u) (h1 : ∀ u ∈ news, u.oneCell' = true)
    (h63 : n + m ≤ maxLen) (hbytes : (n + m) * bytes ≤ 140737488355328) (hbase : base ≤ w.heap.size)
    (h : ∀ v' w', w'.ownsRow base e size v' (n + m) (xs ++ news) → w.grownBy w' v.ownBlock → (v'.ownBlock = v.ownBlock ∨ v'.ownBlock = some w.heap.size) → wpList Tryz.prog ops Q rest (a.put o.dst v') w') : wpList Tryz.prog ops Q (o :: rest) a w := by
  obtain ⟨i, hi1, hz, h2, h3⟩ := info_parts hi
  obtain ⟨v', w', hrun, r1, r2, _, r3⟩ := run_append_own_at (P := Tryz.prog) w base t o.type e i z size bytes ht hi1 hz h2 h3 hzs hsz v n xs hown ad m c news hl hnews h1 h63 hbytes hbase
  refine wpList_plain hgd fun K hK => ?_
  unfold Oper.wp execOp
  simp only [ho, resolve, invoke, builtin, Sem.run_bind, Sem.run_pure, Result.andThen_ok, List.map_toArray, List.map_cons, List.map_nil, hs, hx, hrun]
  exact hK _ _ (h v' w' r1 r2 r3)

/-- What a call on a store may turn: its blocks; what stays as it is stays. -/
structure Ks (w : World) (y : SLay) (w' : World) (y' : SLay) : Prop where
  kf : Kf y.foot w w' y'.foot
  cs : ∀ k, y.role k = some .const → w'.heap[k]? = w.heap[k]? ∧ y'.role k = some .const
theorem Ks.refl (w : World) (y : SLay) : Ks w y w y := ⟨Kf.refl _ _, fun _ h => ⟨rfl, h⟩⟩
theorem Ks.trans {a w w' : World} {x y z : SLay} (h : Ks a x w y) (k : Ks w y w' z) : Ks a x w' z :=
  ⟨h.kf.trans k.kf, fun j hj => ⟨(k.cs j (h.cs j hj).2).1.trans (h.cs j hj).1, (k.cs j (h.cs j hj).2).2⟩⟩
theorem Ks.ofBelow {w w' : World} {sb db : Nat} {y : SLay} {s : Sto} (h : IsS w sb y db s) (hb : Below w.heap.size w w') : Ks w y w' y :=
  ⟨Kf.ofBelow _ hb, fun k hk => ⟨hb.block k (h.foot k (by simp [SLay.foot, hk])), hk⟩⟩
section
variable {w w' : World} {sb db : Nat} {y : SLay} {s : Sto}
/-! ### Blocks that stay as they are, taken in -/
def SLay.adopt (y : SLay) (k : Nat) : SLay := { y with role := fun j => if j = k then some .const else y.role j }
theorem adopt_const (y : SLay) (k : Nat) : (y.adopt k).role k = some .const := by simp [SLay.adopt]
theorem adopt_other (y : SLay) {j k : Nat} (h : j ≠ k) : (y.adopt k).role j = y.role j := by simp [SLay.adopt, h]
theorem adopt_foot (y : SLay) (k j : Nat) : (y.adopt k).foot j ↔ y.foot j ∨ j = k := by
  unfold SLay.foot SLay.adopt
  by_cases e : j = k <;> simp [e]
theorem IsS.adopt (h : IsS w sb y db s) {k : Nat} (hk : k < w.heap.size) (hn : y.role k = none) : IsS w sb (y.adopt k) db s :=
  have hr : ∀ {j r}, y.role j = some r → (y.adopt k).role j = some r := fun {j r} e => by rw [adopt_other y (fun e2 => by rw [e2, hn] at e; cases e)]; exact e
  { row := h.row, map := h.map, freshOk := fun p hp => (h.freshOk p hp).more fun j e => hr e, marksOk := h.marksOk, undoOk := h.undoOk
    unAt := fun i v x h1 h2 => (h.unAt i v x h1 h2).more fun j e => hr e
    rs := hr h.rs, rf := hr h.rf, rm := fun j e => hr (h.rm j e), ru := fun j e => hr (h.ru j e)
    foot := fun j e => ((adopt_foot y k j).1 e).elim (h.foot j) (fun e2 => e2 ▸ hk)
    usLen := h.usLen, msLen := h.msLen }
theorem IsS.not_foot (h : IsS w sb y db s) {k : Nat} (hk : w.heap.size ≤ k) : y.role k = none := by
  rcases hr : y.role k with _ | r
  · rfl
  · have := h.foot k (by simp [SLay.foot, hr]); omega
theorem Kf.adopt {F : Nat → Prop} (y : SLay) {k : Nat} (h : Kf F w w' y.foot) (hk : w.heap.size ≤ k) : Kf F w w' (y.adopt k).foot :=
  ⟨h.fr, fun j hj hf => ((adopt_foot y k j).1 hf).elim (h.foot j hj) (fun e2 => by omega)⟩

theorem Ks.adopt {a : World} {x : SLay} (y : SLay) {k : Nat} (h : Ks a x w y) (hk : a.heap.size ≤ k) (hn : y.role k = none) : Ks a x w (y.adopt k) :=
  ⟨h.kf.adopt y hk, fun j hj => ⟨(h.cs j hj).1, by rw [adopt_other y (fun e => by have := (h.cs j hj).2; rw [e, hn] at this; cases this)]; exact (h.cs j hj).2⟩⟩
/-! ### The state's bits, turned -/
def Sto.turn (s : Sto) (p : Nat) : Sto := { s with cur := ⟨s.cur.now.turn p, s.cur.fresh⟩ }
theorem IsS.turned (h : IsS w sb y db s) (p : Nat) (hp : p < 4096) : IsS (w.setCell ⟨sb, 0 + 1 + p / 8, none⟩ (.int .u8 (pk (flip s.cur.now.has p) (p / 8) : Int))).drew sb y db (s.turn p) := by
  refine h.setRow (by simp [World.setCell]) ?_ (fun k hk _ => Below.heap_setCell _ _ _ _ hk) rfl rfl rfl
  refine (h.row.set (0 + 1 + p / 8) _).drew.congr fun j hj => ?_
  by_cases e : j = 0 + 1 + p / 8
  · subst e
    rw [if_pos rfl]; unfold scell
    rw [if_pos (by omega)]
    unfold stc
    rw [if_neg (by omega)]
    simp [Sto.turn, Sta.turn]
  · rw [if_neg e]; unfold scell
    by_cases h1 : j < 513
    · rw [if_pos h1, if_pos h1]
      unfold stc
      split
      · rfl
      · show _ = Value.int .u8 (pk (flip s.cur.now.has p) (j - 1) : Int)
        rw [pk_flip_other _ _ _ (by omega)]
    · rw [if_neg h1, if_neg h1]
      rfl
/-- A store into the store's own row. -/
theorem IsS.set_ks (h : IsS w sb y db s) (i : Nat) (v : Value) : Ks w y (w.setCell ⟨sb, i, none⟩ v) y :=
  ⟨Kf.same (Fr.setCell w _ (fun _ => h.fsb) v), fun k hk => ⟨Below.heap_setCell _ _ _ _ (h.ne_const hk).1, hk⟩⟩
theorem Ks.drew {a : World} {x : SLay} (h : Ks a x w y) : Ks a x w.drew y := ⟨⟨h.kf.fr.drew, h.kf.foot⟩, h.cs⟩
theorem IsS.set_fr (h : IsS w sb y db s) (i : Nat) (v : Value) : Fr y.foot w (w.setCell ⟨sb, i, none⟩ v) := Fr.setCell w _ (fun _ => h.fsb) v
theorem sturn_any (h : IsS w sb y db s) (p : Nat) (hp : p < 4096) :
    Calls Tryz.prog 95 #[pt sb, .int .i64 p] w fun e w' => e = .returned (.tuple #[]) ∧ IsS w' sb y db (s.turn p) ∧ Ks w y w' y := by
  refine (turn_any w sb 0 s.cur.now p hp h.now (h.frozen _)).mono ?_
  rintro e w' ⟨rfl, rfl⟩
  exact ⟨rfl, h.turned p hp, (h.set_ks _ _).drew⟩

/-! ### The map of what pages hold -/
theorem IsS.setMap (h : IsS w sb y db s) {w' : World} {V : Nat → Option Value} {m : Nat} {f : Pages} (hm : MapN w' y.fm m V) (ht : w.mapTurned w' y.fm) (hmm : y.m ≤ m) (hf : ∀ p, p < 4096 → FreshAt w y.role (V p) (f p)) :
    IsS w' sb { y with V := V, m := m } db { s with cur := ⟨s.cur.now, f⟩ } ∧ Ks w y w' { y with V := V, m := m } :=
  have hF : Fr (fun k => k = y.fm) w w' := Fr.turned ht fun _ => rfl
  have hk : ∀ {k r}, y.role k = some r → r ≠ .fresh → w'.heap[k]? = w.heap[k]? := fun {k r} e hr => hF.block k (h.foot k (by simp [SLay.foot, e])) (fun e2 => by rw [e2, h.rf] at e; cases e; exact hr rfl)
  ⟨{ row := (h.row.of_block (hk h.rs (by simp))).congr fun j hj => rfl
     map := hm
     freshOk := fun p hp => (hf p hp).of_block fun k e => hk e (by simp)
     marksOk := Dk.owns_of_block h.marksOk fun k e => hk (h.rm k e) (by simp)
     undoOk := Dk.owns_of_block h.undoOk fun k e => hk (h.ru k e) (by simp)
     unAt := fun i v x h1 h2 => (h.unAt i v x h1 h2).of_block fun k e => hk e (by simp)
     rs := h.rs, rf := h.rf, rm := h.rm, ru := h.ru
     foot := fun k e => Nat.lt_of_lt_of_le (h.foot k e) hF.size
     usLen := Nat.le_trans h.usLen hmm, msLen := Nat.le_trans h.msLen hmm }, ⟨Kf.same (hF.mono fun b _ e => e ▸ h.ffm), fun k hk2 => ⟨hk hk2 (by simp), hk2⟩⟩⟩
theorem cod_of_own {v : Value} {l : List UInt8} {B : Nat} (h : Mem.Own 5 w B v l) : ∃ z, cod v = some z := by
  rcases h.2 with ⟨rfl, _⟩ | ⟨g, cap, cur, rfl, _⟩
  · exact ⟨_, rfl⟩
  · exact ⟨_, rfl⟩
theorem SlAt.ks {y' : SLay} {v : Value} {l : List UInt8} (h : SlAt w y.role v l) (k : Ks w y w' y') : SlAt w' y'.role v l := (h.of_block fun j e => (k.cs j e).1).more fun j e => (k.cs j e).2
theorem Box.ks {y' : SLay} {j : Nat} {v : Value} (h : Box w y.role j v) (k : Ks w y w' y') : Box w' y'.role j v := (h.of_block fun j e => (k.cs j e).1).more fun j e => (k.cs j e).2
theorem hold_any (h : IsS w sb y db s) (p : Nat) (hp : p < 4096) (v : Value) (l : List UInt8) (hv : SlAt w y.role v l) (hm : y.m < 1000000000) :
    Calls Tryz.prog 90 #[pt sb, .int .i64 p, v] w fun e w' => e = .returned (.tuple #[]) ∧ ∃ y', IsS w' sb y' db { s with cur := s.hold p l } ∧ Ks w y w' y' ∧ y'.m ≤ y.m + 1 := by
  obtain ⟨z, hz⟩ := cod_of_own hv.1
  have H := Lib.hid h
  have HV := Lib.hid hv
  clear h hv
  go_enter Tryz.func90, Tryz.ntmps90
  go_wp2_with (go_at_call 95; refine (sturn_any H.out p hp).mono ?_; rintro e w1 ⟨rfl, h1, k1⟩; have H1 := Lib.hid h1; have K1 := Lib.hid k1; have hc := h1.cfresh; obtain ⟨w2, hrun, hm2, ht2⟩ := h1.map.store (by unfold maxLen; omega) p hp v hz; have HM := Lib.hid hm2; have HT := Lib.hid ht2; clear h1 k1 hm2 ht2)
  first | go_end0 | (simp only [Exit.inBlock, Exit.then]; refine bodyPost_ret (results_none rfl _ _ _) rfl ?_) | refine bodyPost_ret (results_none rfl _ _ _) rfl ?_
  have hv1 := HV.out.ks K1.out
  obtain ⟨i2, k2⟩ := H1.out.setMap (f := s.cur.fresh.put p (some l)) HM.out HT.out (by omega) (fun q hq => by
    by_cases e : q = p
    · subst e; simp only [if_pos, put_same]; exact hv1
    · simp only [if_neg e, put_other _ _ e]; exact H1.out.freshOk q hq)
  exact ⟨rfl, _, i2, K1.out.trans k2, Nat.le_refl _⟩
theorem drop_any (h : IsS w sb y db s) (p : Nat) (hp : p < 4096) :
    Calls Tryz.prog 93 #[pt sb, .int .i64 p] w fun e w' => e = .returned (.tuple #[]) ∧ ∃ y', IsS w' sb y' db { s with cur := s.drop p } ∧ Ks w y w' y' ∧ y'.m ≤ y.m + 1 := by
  have H := Lib.hid h
  clear h
  go_enter Tryz.func93, Tryz.ntmps93
  go_wp2_with (go_at_call 95; refine (sturn_any H.out p hp).mono ?_; rintro e w1 ⟨rfl, h1, k1⟩; have H1 := Lib.hid h1; have K1 := Lib.hid k1; have hc := h1.cfresh; obtain ⟨w2, hrun, hm2, ht2⟩ := h1.map.drop p hp 0; have HM := Lib.hid hm2; have HT := Lib.hid ht2; clear h1 k1 hm2 ht2)
  first | go_end0 | (simp only [Exit.inBlock, Exit.then]; refine bodyPost_ret (results_none rfl _ _ _) rfl ?_) | refine bodyPost_ret (results_none rfl _ _ _) rfl ?_
  obtain ⟨i2, k2⟩ := H1.out.setMap (f := s.cur.fresh.put p none) HM.out HT.out (Nat.le_refl _) (fun q hq => by
    by_cases e : q = p
    · subst e; simp only [if_pos, put_same]; trivial
    · simp only [if_neg e, put_other _ _ e]; exact H1.out.freshOk q hq)
  exact ⟨rfl, _, i2, K1.out.trans k2, Nat.le_succ _⟩

/-! ### Something was done -/
def Sto.did1 (s : Sto) (u : Un) (o : Vw) : Sto := { s with changed := true, us := if s.marks = [] then s.us else s.us ++ [(u, o)] }
theorem own_len' {e size : Nat} {base n : Nat} {v : Value} {xs : List Value} (h : w.ownsRow base e size v n xs) : ∃ A c, v = .slice A n c := by
  rcases h.2 with ⟨rfl, rfl⟩ | ⟨g, cap, cur, rfl, _⟩
  · exact ⟨_, _, rfl⟩
  · exact ⟨_, _, rfl⟩
theorem IsS.setChanged (h : IsS w sb y db s) (b : Bool) : IsS (w.setCell ⟨sb, 1027, none⟩ (.bool b)) sb y db { s with changed := b } := by
  refine h.setRow (by simp [World.setCell]) ?_ (fun k hk _ => Below.heap_setCell _ _ _ _ hk) rfl rfl rfl
  refine (h.row.set 1027 _).congr fun j hj => ?_
  unfold scell
  by_cases e : j = 1027
  · subst e; rfl
  · rw [if_neg e]; simp only [if_neg e]
theorem frozen_of_block {w w' : World} {b : Nat} (e : w'.heap[b]? = w.heap[b]?) (i : Nat) : w'.frozen? ⟨b, i, none⟩ = w.frozen? ⟨b, i, none⟩ := by
  simp only [World.frozen?, e]
theorem func_info : (Tryz.prog.info? 1).map (fun i => (i.zero, i.size, i.bytes)) = some (some .nilFunc, 1, 8) := by kernel_rfl
theorem un_func {role : Nat → Option SRole} {f : Value} {u : Un} (h : UnAt w role sb f u) : ∃ F cap, f = .func (.func F) #[] cap := by
  cases u with
  | drop p => obtain ⟨c, q, e, _⟩ := h; exact ⟨_, _, e⟩
  | give p o => obtain ⟨f, c, q, b, sv, e, _⟩ := h; exact ⟨_, _, e⟩
  | root r => obtain ⟨x, c, e, _⟩ := h; exact ⟨_, _, e⟩
/-- The role of a row's block. -/
def SLay.rowed (y : SLay) (v : Value) (r : SRole) : Nat → Option SRole := fun k => if v.ownBlock = some k then some r else y.role k
theorem IsS.undone (h : IsS w sb y db s) {o : Obj} {w2 : World} {v' f : Value} {u : Un} {ov : Vw} (r1 : w2.ownsRow 0 1 1 v' (s.us.length + 1) (y.U ++ [f])) (r2 : (w.alloc o).grownBy w2 y.uv.ownBlock) (r3 : v'.ownBlock = y.uv.ownBlock ∨ v'.ownBlock = some (w.alloc o).heap.size) (hu : UnAt w y.role sb f u) :
    IsS (w2.setCell ⟨sb, 1029, none⟩ v') sb { y with uv := v', U := y.U ++ [f], m := y.m + 1, role := y.rowed v' .undo } db { s with us := s.us ++ [(u, ov)] } ∧ Ks w y (w2.setCell ⟨sb, 1029, none⟩ v') { y with uv := v', U := y.U ++ [f], m := y.m + 1, role := y.rowed v' .undo } := by
  have hb1 : ∀ k r, y.role k = some r → r ≠ .undo → w2.heap[k]? = w.heap[k]? := fun k r e hr => by
    have hlt := h.foot k (by simp [SLay.foot, e])
    refine (r2.block k (by simp; omega) (fun e2 => ?_)).trans (Below.heap_alloc _ _ _ hlt)
    have := h.ru k e2.symm
    rw [e] at this; cases this; exact hr rfl
  have hsz : w.heap.size ≤ w2.heap.size := by have := r2.size; simp at this; omega
  have hbu : ∀ k, v'.ownBlock = some k → y.role k = some .undo ∨ y.role k = none ∧ w.heap.size ≤ k := fun k e => by
    rcases r3 with e3 | e3
    · exact .inl (h.ru k (by rw [← e3]; exact e))
    · have hk : k = w.heap.size + 1 := by rw [e3] at e; injection e with e; simp at e; omega
      exact .inr ⟨h.not_foot (by omega), by omega⟩
  have hr : ∀ {k r}, y.role k = some r → r ≠ .undo → y.rowed v' .undo k = some r := fun {k r} e hn => by
    unfold SLay.rowed
    rw [if_neg (fun e2 => ?_)]
    · exact e
    · rcases hbu k e2 with h2 | ⟨h2, _⟩
      · rw [e] at h2; cases h2; exact hn rfl
      · rw [e] at h2; cases h2
  have hr2 : ∀ {k}, y.role k = some .undo → y.rowed v' .undo k = some .undo := fun {k} e => by
    unfold SLay.rowed; split
    · rfl
    · exact e
  have hk2 : ∀ k, k ≠ sb → (w2.setCell ⟨sb, 1029, none⟩ v').heap[k]? = w2.heap[k]? := fun k hk => Below.heap_setCell _ _ _ _ hk
  have hkk : ∀ k r, y.role k = some r → r ≠ .undo → r ≠ .store → (w2.setCell ⟨sb, 1029, none⟩ v').heap[k]? = w.heap[k]? := fun k r e h1 h2 => (hk2 k (fun e2 => by rw [e2, h.rs] at e; cases e; exact h2 rfl)).trans (hb1 k r e h1)
  have hcs : ∀ k, y.role k = some .const → (w2.setCell ⟨sb, 1029, none⟩ v').heap[k]? = w.heap[k]? := fun k e => hkk k _ e (by simp) (by simp)
  have hvs : ∀ k, v'.ownBlock = some k → k ≠ sb := fun k e e2 => by
    subst e2
    rcases hbu _ e with h2 | ⟨h2, _⟩
    · rw [h.rs] at h2; cases h2
    · rw [h.rs] at h2; cases h2
  refine ⟨?_, ?_, ?_⟩
  · exact {
      row := by
        refine ((h.row.of_block (hb1 sb _ h.rs (by simp))).set 1029 v').congr fun j hj => ?_
        unfold scell
        by_cases e : j = 1029
        · subst e; rfl
        · rw [if_neg e]; simp only [if_neg e]
      map := (h.map.of_block (hkk _ _ h.rf (by simp) (by simp))).mono (Nat.le_succ _)
      freshOk := fun p hp => ((h.freshOk p hp).of_block hcs).more fun k e => hr e (by simp)
      marksOk := Dk.owns_of_block h.marksOk fun k e => hkk k _ (h.rm k e) (by simp) (by simp)
      undoOk := by
        have := Dk.owns_of_block r1 (w' := w2.setCell ⟨sb, 1029, none⟩ v') fun k e => hk2 k (hvs k e)
        simpa using this
      unAt := fun i v x h1 h2 => by
        have hl : y.U.length = s.us.length := by have := h.undoOk.1; omega
        by_cases hi : i < s.us.length
        · rw [List.getElem?_append_left (by omega)] at h1
          rw [List.getElem?_append_left hi] at h2
          exact ((h.unAt i v x h1 h2).of_block hcs).more fun k e => hr e (by simp)
        · have hi2 : i = s.us.length := by
            have := (List.getElem?_eq_some_iff.1 h2).1; simp at this; omega
          subst hi2
          rw [List.getElem?_append_right (by omega), hl, Nat.sub_self] at h1
          rw [List.getElem?_append_right (Nat.le_refl _), Nat.sub_self] at h2
          injection h1 with h1; injection h2 with h2
          subst h1; subst h2
          exact (hu.of_block hcs).more fun k e => hr e (by simp)
      rs := hr h.rs (by simp), rf := hr h.rf (by simp), rm := fun k e => hr (h.rm k e) (by simp)
      ru := fun k e => by show y.rowed v' .undo k = _; unfold SLay.rowed; rw [if_pos e]
      foot := fun k e => by
        have hs2 : (w2.setCell ⟨sb, 1029, none⟩ v').heap.size = w2.heap.size := by simp [World.setCell]
        rw [hs2]
        by_cases e2 : v'.ownBlock = some k
        · exact (World.ownsRow.lt r1 k e2).2
        · have : y.foot k := by
            have e3 : y.rowed v' .undo k ≠ none := e
            unfold SLay.rowed at e3; rw [if_neg e2] at e3; exact e3
          exact Nat.lt_of_lt_of_le (h.foot k this) hsz
      usLen := by rw [List.length_append]; have := h.usLen; simp; omega
      msLen := by have := h.msLen; show s.marks.length ≤ y.m + 1; omega }
  · refine ⟨⟨r2.os, r2.tape, r2.output, by simpa [World.setCell] using hsz, fun k hk hf => ?_⟩, fun k hk e => ?_⟩
    · refine (hk2 k (fun e => hf (e ▸ h.fsb))).trans ((r2.block k (by simp; omega) (fun e2 => hf ?_)).trans (Below.heap_alloc _ _ _ hk))
      have := h.ru k e2.symm
      simp [SLay.foot, this]
    · by_cases e2 : v'.ownBlock = some k
      · rcases hbu k e2 with h2 | ⟨_, h2⟩
        · simp [SLay.foot, h2]
        · omega
      · have e3 : y.rowed v' .undo k ≠ none := e
        unfold SLay.rowed at e3; rw [if_neg e2] at e3; exact e3
  · exact fun k hk => ⟨hcs k hk, hr hk (by simp)⟩
set_option maxHeartbeats 1000000 in
theorem did_any (h : IsS w sb y db s) (f : Value) (u : Un) (o : Vw) (hu : UnAt w y.role sb f u) (hm : y.m < 1000000000) :
    Calls Tryz.prog 91 #[pt sb, f] w fun e w' => e = .returned (.tuple #[]) ∧ ∃ y', IsS w' sb y' db (s.did1 u o) ∧ Ks w y w' y' ∧ y'.m ≤ y.m + 1 := by
  have H1 := Lib.hid (h.setChanged true)
  have K1 := Lib.hid (h.set_ks 1027 (.bool true))
  obtain ⟨F, cap, rfl⟩ := un_func hu
  have HU := Lib.hid hu
  have c4 := H1.out.cmarks
  have c5 := H1.out.cundo
  have f7 := h.frozen 1027
  have c7 := h.cchanged
  obtain ⟨A, c, hmv⟩ := own_len' h.marksOk
  rw [hmv] at c4
  have hlen : s.marks.length < 1000000000 := by have := h.msLen; omega
  clear h hu
  by_cases he : s.marks = []
  · have e1 : s.did1 u o = { s with changed := true } := by unfold Sto.did1; rw [if_pos he]
    rw [e1]
    rw [he, List.length_nil] at c4
    go_enter Tryz.func91, Tryz.ntmps91
    go_wp2
    first | go_end0 | (simp only [Exit.inBlock, Exit.then]; refine bodyPost_ret (results_none rfl _ _ _) rfl ?_) | refine bodyPost_ret (results_none rfl _ _ _) rfl ?_
    exact ⟨rfl, _, H1.out, K1.out, by omega⟩
  · have hpos : 0 < s.marks.length := List.length_pos_iff.2 he
    have hpos' : (0 : Int) < (s.marks.length : Int) := by omega
    have hun := Lib.hid H1.out.undoOk
    have hul := Lib.hid H1.out.usLen
    generalize s.marks.length = nm at c4 hlen hpos hpos'
    have hE := Lib.hid he
    clear he hmv hlen hpos
    have hne : y.uv.ownBlock ≠ some sb := fun e => by have := H1.out.ru sb e; rw [H1.out.rs] at this; cases this
    have HU1 := Lib.hid (HU.out.of_block (w' := w.setCell ⟨sb, 1027, none⟩ (.bool true)) fun k hk => (K1.out.cs k hk).1)
    have hO := Lib.hid (Dk.owns_of_block (w' := (w.setCell ⟨sb, 1027, none⟩ (.bool true)).alloc (.cells #[.func (.func F) #[] cap] 1)) hun.out fun k hk => Below.heap_alloc _ _ _ (World.ownsRow.lt hun.out k hk).2)
    have hC : ∀ j u, [Value.func (.func F) #[] cap][j]? = some u → ((w.setCell ⟨sb, 1027, none⟩ (.bool true)).alloc (.cells #[.func (.func F) #[] cap] 1)).cell? ((⟨w.heap.size, 0, none⟩ : Addr).add j) = some u := fun j u hj => by
      have hj0 : j = 0 := by
        have := (List.getElem?_eq_some_iff.1 hj).1; simp at this; omega
      subst hj0
      injection hj with hj; subst hj
      have := Dk.cell_alloc_new (w.setCell ⟨sb, 1027, none⟩ (.bool true)) (Value.func (.func F) #[] cap) 1
      rwa [show (w.setCell ⟨sb, 1027, none⟩ (.bool true)).heap.size = w.heap.size by simp [World.setCell]] at this
    have hC := Lib.hid hC
    have hn1 : s.us.length + 1 ≤ maxLen := by have : s.us.length ≤ y.m := hul.out; unfold maxLen; omega
    have hn2 : (s.us.length + 1) * 8 ≤ 140737488355328 := by have : s.us.length ≤ y.m := hul.out; omega
    have hn1 := Lib.hid hn1
    have hn2 := Lib.hid hn2
    have hX : ∀ u ∈ [Value.func (.func F) #[] cap], u.oneCell' = true := by simp [Value.oneCell']
    have hX := Lib.hid hX
    go_enter Tryz.func91, Tryz.ntmps91
    go_wp2_with (at_builtin; refine wpList_append_row Tryz.underlying85 func_info rfl (by omega) rfl _ _ rfl 0 _ _ _ rfl hO.out _ 1 _ [.func (.func F) #[] cap] rfl rfl hC.out hX.out hn1.out hn2.out (Nat.zero_le _) ?_; intro v' w2 r1 r2 r3; obtain ⟨A2, c2, rfl⟩ := own_len' r1; have k9 := H1.out.undone (ov := o) r1 r2 r3 HU1.out; have g9 := (H1.out.alloc (.cells #[.func (.func F) #[] cap] 1)); have b9 : w2.heap[sb]? = _ := r2.block sb (g9.foot sb g9.fsb) (fun e => hne e.symm); have c9 := (World.cell?_of_block (a := ⟨sb, 1029, none⟩) b9).trans g9.cundo; have f9 := (frozen_of_block b9 1029).trans (g9.frozen 1029); have K9 := Lib.hid k9; clear r1 r2 r3 k9 g9 b9)
    first | go_end0 | (simp only [Exit.inBlock, Exit.then]; refine bodyPost_ret (results_none rfl _ _ _) rfl ?_) | refine bodyPost_ret (results_none rfl _ _ _) rfl ?_
    refine ⟨rfl, _, ?_, K1.out.trans K9.out.2, Nat.le_refl _⟩
    have e2 : s.did1 u o = { s with changed := true, us := s.us ++ [(u, o)] } := by unfold Sto.did1; rw [if_neg hE.out]
    rw [e2]
    exact K9.out.1
end
end Go.Proofs.YtnpebfolmdbipaaGreatDoor.Sk

namespace Go.Proofs.YtnpebfolmdbipaaGreatDoor.Sk
set_option maxRecDepth 8000
set_option linter.unusedVariables false
set_option linter.unusedSimpArgs false
open Go.RowKit Mem Go.ChangeMaps
open Dk (cod elem cod_inj elem_mk elem_inv key key_inj wf_key keyed3 MapIs Fr ptr hmf cell_alloc cell_alloc_new)
section
variable {w w' : World} {sb db : Nat} {y : SLay} {s : Sto}
theorem did_take (s : Sto) (p : Nat) (l : List UInt8) : ({ s with cur := s.hold p l } : Sto).did1 (.drop p) s.cur = s.take p l := rfl
theorem did_give (s : Sto) (p : Nat) : ({ s with cur := s.drop p } : Sto).did1 (.give p (s.cur.fresh p)) s.cur = s.give p := rfl
theorem did_setRoot (s : Sto) (p : Nat) : ({ s with cur := ⟨{ s.cur.now with root := p }, s.cur.fresh⟩ } : Sto).did1 (.root s.cur.now.root) s.cur = s.setRoot p := rfl

set_option maxHeartbeats 1000000 in
theorem ctake_any (h : IsS w sb y db s) (p : Nat) (hp : p < 4096) (v : Value) (l : List UInt8) (hv : SlAt w y.role v l) (hm : y.m < 100000000) :
    Calls Tryz.prog 51 #[pt sb, .int .i64 p, v] w fun e w' => e = .returned (.tuple #[]) ∧ ∃ y', IsS w' sb y' db (s.take p l) ∧ Ks w y w' y' ∧ y'.m ≤ y.m + 2 := by
  have h1 := ((h.alloc (.cells #[pt sb] 112)).alloc (.cells #[.int .i64 (p : Int)] 3))
  have n1 : y.role w.heap.size = none := h.not_foot (Nat.le_refl _)
  have h2 := h1.adopt (k := w.heap.size) (by simp; omega) n1
  have n2 : (y.adopt w.heap.size).role (w.heap.size + 1) = none := by rw [adopt_other y (by omega)]; exact h.not_foot (by omega)
  have h3 := h2.adopt (k := w.heap.size + 1) (by simp) n2
  have hB := ((Below.refl w.heap.size w).alloc (Nat.le_refl _) (.cells #[pt sb] 112)).alloc (by simp) (.cells #[.int .i64 (p : Int)] 3)
  have K0 := Lib.hid (((Ks.ofBelow h hB).adopt _ (Nat.le_refl _) n1).adopt _ (by omega) n2)
  have B1 : Box ((w.alloc (.cells #[pt sb] 112)).alloc (.cells #[.int .i64 (p : Int)] 3)) ((y.adopt w.heap.size).adopt (w.heap.size + 1)).role w.heap.size (pt sb) := ⟨by rw [adopt_other _ (by omega)]; exact adopt_const _ _, cell_alloc (cell_alloc_new w _ _) _⟩
  have B2 : Box ((w.alloc (.cells #[pt sb] 112)).alloc (.cells #[.int .i64 (p : Int)] 3)) ((y.adopt w.heap.size).adopt (w.heap.size + 1)).role (w.heap.size + 1) (.int .i64 (p : Int)) := ⟨adopt_const _ _, by
    have := cell_alloc_new (w.alloc (.cells #[pt sb] 112)) (.int .i64 (p : Int)) 3
    rwa [size_alloc'] at this⟩
  have SV := Lib.hid (hv.ks K0.out)
  have B1 := Lib.hid B1
  have B2 := Lib.hid B2
  have H := Lib.hid h3
  have hmk := hmf
  clear h h1 h2 h3 hB n1 n2 hv
  go_enter Tryz.func51, Tryz.ntmps51
  go_wp2_with (first
    | (go_at_call 91; refine (did_any H1.out _ (.drop p) s.cur ⟨_, _, rfl, B1.out.ks K1.out, B2.out.ks K1.out, hp⟩ (by omega)).mono ?_; rintro e w2 ⟨rfl, y2, h2, k2, m2⟩; have H2 := Lib.hid h2; have K2 := Lib.hid k2; clear h2 k2)
    | (go_at_call 90; refine (hold_any H.out p hp v l SV.out (by show y.m < _; omega)).mono ?_; rintro e w1 ⟨rfl, y1, h1, k1, m1⟩; have H1 := Lib.hid h1; have K1 := Lib.hid k1; have C1 := ((B1.out.ks k1)).2; have C2 := (B2.out.ks k1).2; have m1 : y1.m ≤ y.m + 1 := m1; clear h1 k1))
  first | go_end0 | (simp only [Exit.inBlock, Exit.then]; refine bodyPost_ret (results_none rfl _ _ _) rfl ?_) | refine bodyPost_ret (results_none rfl _ _ _) rfl ?_
  exact ⟨rfl, _, did_take s p l ▸ H2.out, (K0.out.trans K1.out).trans K2.out, by omega⟩
end
end Go.Proofs.YtnpebfolmdbipaaGreatDoor.Sk

namespace Go.Proofs.YtnpebfolmdbipaaGreatDoor.Sk
set_option maxRecDepth 8000
set_option linter.unusedVariables false
set_option linter.unusedSimpArgs false
open Go.RowKit Mem Go.ChangeMaps
open Dk (cod elem cod_inj elem_mk elem_inv key key_inj wf_key keyed3 MapIs Fr ptr hmf cell_alloc cell_alloc_new zero42)
section
variable {w w' : World} {sb db : Nat} {y : SLay} {s : Sto}
set_option maxHeartbeats 1000000 in
theorem cgive_any (h : IsS w sb y db s) (p : Nat) (hp : p < 4096) (hm : y.m < 100000000) :
    Calls Tryz.prog 56 #[pt sb, .int .i64 p] w fun e w' => e = .returned (.tuple #[]) ∧ ∃ y', IsS w' sb y' db (s.give p) ∧ Ks w y w' y' ∧ y'.m ≤ y.m + 2 := by
  obtain ⟨W0, hW0⟩ : ∃ W0, W0 = (w.alloc (.cells #[pt sb] 112)).alloc (.cells #[.int .i64 (p : Int)] 3) := ⟨_, rfl⟩
  have hz0 : W0.heap.size = w.heap.size + 2 := by rw [hW0]; simp
  have hI : IsS W0 sb y db s := hW0 ▸ ((h.alloc _).alloc _)
  have a1 : W0.cell? ⟨w.heap.size, 0, none⟩ = some (pt sb) := hW0 ▸ cell_alloc (cell_alloc_new w _ _) _
  have a2 : W0.cell? ⟨w.heap.size + 1, 0, none⟩ = some (.int .i64 (p : Int)) := by
    have := cell_alloc_new (w.alloc (.cells #[pt sb] 112)) (.int .i64 (p : Int)) 3
    rw [size_alloc'] at this
    rw [hW0]; exact this
  have a3 := hI.cfresh
  obtain ⟨va, hva⟩ : ∃ va, va = (y.V p).getD (.slice none 0 0) := ⟨_, rfl⟩
  obtain ⟨ok, hok⟩ : ∃ ok, ok = (y.V p).isSome := ⟨_, rfl⟩
  have hlk : ∀ W, W.heap[y.fm]? = W0.heap[y.fm]? → (Instr.lookup 83 (.map (some y.fm)) (.int .i64 p) true).run Tryz.prog W = .ok (.tuple #[va, .bool ok]) W := fun W e => by
    rw [hva, hok]
    exact (hI.map.is.of_block e).look_ok Tryz.underlying83 (zero42 _) p (by omega)
  have hlt : y.fm < W0.heap.size := hI.map.lt
  have l0 := hlk W0.drew rfl
  have l1 : ∀ o, (Instr.lookup 83 (.map (some y.fm)) (.int .i64 p) true).run Tryz.prog (W0.alloc o).drew = .ok (.tuple #[va, .bool ok]) (W0.alloc o).drew := fun o => hlk _ (Below.heap_alloc _ _ _ hlt)
  have l2 : ∀ o o', (Instr.lookup 83 (.map (some y.fm)) (.int .i64 p) true).run Tryz.prog ((W0.alloc o).alloc o').drew = .ok (.tuple #[va, .bool ok]) ((W0.alloc o).alloc o').drew := fun o o' => hlk _ ((Below.heap_alloc _ _ _ (by simp; omega)).trans (Below.heap_alloc _ _ _ hlt))
  have hvs : ∃ A n c, va = .slice A n c := by
    have := hI.freshOk p hp
    rw [hva]
    rcases hV : y.V p with _ | v
    · exact ⟨_, _, _, rfl⟩
    · rw [hV] at this
      rcases hf : s.cur.fresh p with _ | l
      · rw [hf] at this; exact this.elim
      · rw [hf] at this
        obtain ⟨A, c, e, _⟩ := this.1.form
        exact ⟨_, _, _, e⟩
  obtain ⟨A, n, c, hvs⟩ := hvs
  have hbel : Below w.heap.size w W0 := hW0 ▸ ((Below.refl w.heap.size w).alloc (Nat.le_refl _) _).alloc (by simp) _
  have hsa : ∀ l, s.cur.fresh p = some l → SlAt W0 y.role va l := fun l hl => by
    have := hI.freshOk p hp
    rw [hl] at this
    rcases hV : y.V p with _ | v
    · rw [hV] at this; exact this.elim
    · rw [hV] at this; rw [hva, hV]; exact this
  have hoks : ok = (s.cur.fresh p).isSome := by
    have := hI.freshOk p hp
    rw [hok]
    rcases hV : y.V p with _ | v <;> rcases hf : s.cur.fresh p with _ | l
    · rfl
    · rw [hV, hf] at this; exact this.elim
    · rw [hV, hf] at this; exact this.elim
    · rfl
  have key : ∀ W1 kb kf, Below W0.heap.size W0 W1 → W0.heap.size ≤ kb → W0.heap.size ≤ kf → kb ≠ kf → W1.cell? ⟨kb, 0, none⟩ = some va → W1.cell? ⟨kf, 0, none⟩ = some (.bool ok) →
      ∃ y1, IsS W1 sb y1 db s ∧ Ks w y W1 y1 ∧ y1.m = y.m ∧ Box W1 y1.role w.heap.size (pt sb) ∧ Box W1 y1.role (w.heap.size + 1) (.int .i64 (p : Int)) ∧ Box W1 y1.role kf (.bool (s.cur.fresh p).isSome) ∧ Box W1 y1.role kb va ∧ ∀ l, s.cur.fresh p = some l → SlAt W1 y1.role va l := fun W1 kb kf hb h1 h2 h3 c1 c2 => by
    have hb2 : Below w.heap.size w W1 := hbel.trans (hb.mono (by omega))
    have l1 := Dk.lt_of_cell c1
    have l2 := Dk.lt_of_cell c2
    have i0 : IsS W1 sb y db s := hI.below hb
    have n0 : y.role w.heap.size = none := h.not_foot (Nat.le_refl _)
    have n1 : y.role (w.heap.size + 1) = none := h.not_foot (by omega)
    have n2 : y.role kf = none := h.not_foot (by omega)
    have n3 : y.role kb = none := h.not_foot (by omega)
    have n1' : (y.adopt w.heap.size).role (w.heap.size + 1) = none := by rw [adopt_other _ (by omega)]; exact n1
    have n2' : ((y.adopt w.heap.size).adopt (w.heap.size + 1)).role kf = none := by rw [adopt_other _ (by omega), adopt_other _ (by omega)]; exact n2
    have n3' : (((y.adopt w.heap.size).adopt (w.heap.size + 1)).adopt kf).role kb = none := by rw [adopt_other _ h3, adopt_other _ (by omega), adopt_other _ (by omega)]; exact n3
    have hs := hb.size
    have K1 := (Ks.ofBelow h hb2).adopt y (k := w.heap.size) (Nat.le_refl _) n0
    have K2 := K1.adopt _ (k := w.heap.size + 1) (by omega) n1'
    have K3 := K2.adopt _ (k := kf) (by omega) n2'
    have K4 := K3.adopt _ (k := kb) (by omega) n3'
    have I4 := (((i0.adopt (k := w.heap.size) (by omega) n0).adopt (k := w.heap.size + 1) (by omega) n1').adopt l2 n2').adopt l1 n3'
    have d1 : w.heap.size ≠ kb := by omega
    have d2 : w.heap.size ≠ kf := by omega
    have d3 : w.heap.size + 1 ≠ kb := by omega
    have d4 : w.heap.size + 1 ≠ kf := by omega
    have d5 : w.heap.size ≠ w.heap.size + 1 := by omega
    refine ⟨_, I4, K4, rfl, ⟨?_, ?_⟩, ⟨?_, ?_⟩, ⟨?_, ?_⟩, ⟨adopt_const _ _, c1⟩, ?_⟩
    · rw [adopt_other _ d1, adopt_other _ d2, adopt_other _ d5]; exact adopt_const _ _
    · exact (hb.cell (by simp; omega)).trans a1
    · rw [adopt_other _ d3, adopt_other _ d4]; exact adopt_const _ _
    · exact (hb.cell (by simp; omega)).trans a2
    · rw [adopt_other _ (fun e => h3 e.symm)]; exact adopt_const _ _
    · rw [← hoks]; exact c2
    · intro l hl
      have s0 := (hsa l hl).of_block fun k hk => hb.block k (hI.foot k (by simp [SLay.foot, hk]))
      refine s0.more fun k hk => ?_
      have e1 : k < w.heap.size := h.foot k (by simp [SLay.foot, hk])
      have g1 : k ≠ kb := by omega
      have g2 : k ≠ kf := by omega
      have g3 : k ≠ w.heap.size + 1 := by omega
      have g4 : k ≠ w.heap.size := by omega
      rw [adopt_other _ g1, adopt_other _ g2, adopt_other _ g3, adopt_other _ g4]; exact hk
  have KEY := Lib.hid key
  have HH := Lib.hid hI
  clear hbel hsa hoks key
  have HW := Lib.hid hW0
  have HL := Lib.hid hlk
  have HV := Lib.hid (And.intro hva hok)
  subst hvs
  have a1b := fun o => cell_alloc a1 o
  have a2b := fun o => cell_alloc a2 o
  have a3b := fun o => cell_alloc a3 o
  have a1c := fun o o' => cell_alloc (a1b o) o'
  have a2c := fun o o' => cell_alloc (a2b o) o'
  have a3c := fun o o' => cell_alloc (a3b o) o'
  have hmk := hmf
  clear h hI hlk hva hok hlt hz0 hW0
  go_enter Tryz.func56, Tryz.ntmps56
  go_wp2_with fail
  rw [← HW.out]
  clear HW
  go_region
  · obtain ⟨W1, hW1⟩ : ∃ W1, W1 = ((W0.alloc (.cells #[.slice A n c] 36)).alloc (.cells #[.bool ok] 4)).drew := ⟨_, rfl⟩
    rw [← hW1]
    have hc1 : W1.cell? ⟨W0.heap.size, 0, none⟩ = some (.slice A n c) := hW1 ▸ cell_alloc (cell_alloc_new W0 _ _) _
    have hc2 : W1.cell? ⟨W0.heap.size + 1, 0, none⟩ = some (.bool ok) := by
      have := cell_alloc_new (W0.alloc (.cells #[.slice A n c] 36)) (.bool ok) 4
      rw [size_alloc'] at this
      rw [hW1]; exact this
    have hb : Below W0.heap.size W0 W1 := hW1 ▸ (((Below.refl _ W0).alloc (Nat.le_refl _) _).alloc (by simp) _).drew
    obtain ⟨y1, i1, k1, m1, b1, b2, b3, b4, b5⟩ := KEY.out W1 _ _ hb (Nat.le_refl _) (Nat.le_succ _) (by omega) hc1 hc2
    have C1 := b1.2
    have C2 := b2.2
    have H1 := Lib.hid i1
    have K1 := Lib.hid k1
    have BB := Lib.hid (And.intro b1 (And.intro b2 (And.intro b3 (And.intro b4 b5))))
    clear hW1 hc1 hc2 hb i1 k1 b1 b2 b3 b4 b5 KEY HL HV l0 l1 l2 a1 a2 a3 a1b a2b a3b a1c a2c a3c HH
    go_wp2_with (first
      | (go_at_call 91; refine (did_any H2.out _ (.give p (s.cur.fresh p)) s.cur ⟨_, _, _, _, _, rfl, BB.out.2.2.1.ks K2.out, BB.out.1.ks K2.out, BB.out.2.1.ks K2.out, BB.out.2.2.2.1.ks K2.out, fun l e => (BB.out.2.2.2.2 l e).ks K2.out, hp⟩ (by omega)).mono ?_; rintro e w3 ⟨rfl, y3, h3, k3, m3⟩; have H3 := Lib.hid h3; have K3 := Lib.hid k3; clear h3 k3)
      | (go_at_call 93; refine (drop_any H1.out p hp).mono ?_; rintro e w2 ⟨rfl, y2, h2, k2, m2⟩; have H2 := Lib.hid h2; have K2 := Lib.hid k2; have D1 := (BB.out.1.ks k2).2; have D2 := (BB.out.2.1.ks k2).2; clear h2 k2))
    first | go_end0 | (simp only [Exit.inBlock, Exit.then]; refine bodyPost_ret (results_none rfl _ _ _) rfl ?_) | refine bodyPost_ret (results_none rfl _ _ _) rfl ?_
    exact ⟨rfl, _, did_give s p ▸ H3.out, (K1.out.trans K2.out).trans K3.out, by omega⟩
  · obtain ⟨W1, hW1⟩ : ∃ W1, W1 = ((W0.alloc (.cells #[.bool ok] 4)).alloc (.cells #[.slice A n c] 36)).drew := ⟨_, rfl⟩
    rw [← hW1]
    have hc2 : W1.cell? ⟨W0.heap.size, 0, none⟩ = some (.bool ok) := hW1 ▸ cell_alloc (cell_alloc_new W0 _ _) _
    have hc1 : W1.cell? ⟨W0.heap.size + 1, 0, none⟩ = some (.slice A n c) := by
      have := cell_alloc_new (W0.alloc (.cells #[.bool ok] 4)) (.slice A n c) 36
      rw [size_alloc'] at this
      rw [hW1]; exact this
    have hb : Below W0.heap.size W0 W1 := hW1 ▸ (((Below.refl _ W0).alloc (Nat.le_refl _) _).alloc (by simp) _).drew
    obtain ⟨y1, i1, k1, m1, b1, b2, b3, b4, b5⟩ := KEY.out W1 _ _ hb (Nat.le_succ _) (Nat.le_refl _) (by omega) hc1 hc2
    have C1 := b1.2
    have C2 := b2.2
    have H1 := Lib.hid i1
    have K1 := Lib.hid k1
    have BB := Lib.hid (And.intro b1 (And.intro b2 (And.intro b3 (And.intro b4 b5))))
    clear hW1 hc1 hc2 hb i1 k1 b1 b2 b3 b4 b5 KEY HL HV l0 l1 l2 a1 a2 a3 a1b a2b a3b a1c a2c a3c HH
    go_wp2_with (first
      | (go_at_call 91; refine (did_any H2.out _ (.give p (s.cur.fresh p)) s.cur ⟨_, _, _, _, _, rfl, BB.out.2.2.1.ks K2.out, BB.out.1.ks K2.out, BB.out.2.1.ks K2.out, BB.out.2.2.2.1.ks K2.out, fun l e => (BB.out.2.2.2.2 l e).ks K2.out, hp⟩ (by omega)).mono ?_; rintro e w3 ⟨rfl, y3, h3, k3, m3⟩; have H3 := Lib.hid h3; have K3 := Lib.hid k3; clear h3 k3)
      | (go_at_call 93; refine (drop_any H1.out p hp).mono ?_; rintro e w2 ⟨rfl, y2, h2, k2, m2⟩; have H2 := Lib.hid h2; have K2 := Lib.hid k2; have D1 := (BB.out.1.ks k2).2; have D2 := (BB.out.2.1.ks k2).2; clear h2 k2))
    first | go_end0 | (simp only [Exit.inBlock, Exit.then]; refine bodyPost_ret (results_none rfl _ _ _) rfl ?_) | refine bodyPost_ret (results_none rfl _ _ _) rfl ?_
    exact ⟨rfl, _, did_give s p ▸ H3.out, (K1.out.trans K2.out).trans K3.out, by omega⟩

theorem IsS.setNowRoot (h : IsS w sb y db s) (p : Nat) : IsS (w.setCell ⟨sb, 0, none⟩ (.int .i64 (p : Int))) sb y db { s with cur := ⟨{ s.cur.now with root := p }, s.cur.fresh⟩ } := by
  refine h.setRow (by simp [World.setCell]) ?_ (fun k hk _ => Below.heap_setCell _ _ _ _ hk) rfl rfl rfl
  refine (h.row.set 0 _).congr fun j hj => ?_
  unfold scell stc
  by_cases e : j = 0
  · subst e; rfl
  · rw [if_neg e]; simp only [if_neg e]
set_option maxHeartbeats 1000000 in
theorem csetRoot_any (h : IsS w sb y db s) (p : Nat) (hm : y.m < 100000000) :
    Calls Tryz.prog 59 #[pt sb, .int .i64 p] w fun e w' => e = .returned (.tuple #[]) ∧ ∃ y', IsS w' sb y' db (s.setRoot p) ∧ Ks w y w' y' ∧ y'.m ≤ y.m + 2 := by
  have n1 : y.role w.heap.size = none := h.not_foot (Nat.le_refl _)
  have n2 : (y.adopt w.heap.size).role (w.heap.size + 1) = none := by rw [adopt_other y (by omega)]; exact h.not_foot (by omega)
  obtain ⟨W, hW⟩ : ∃ W, W = (w.alloc (.cells #[pt sb] 112)).alloc (.cells #[.int .i64 (s.cur.now.root : Int)] 3) := ⟨_, rfl⟩
  have h3 : IsS W sb ((y.adopt w.heap.size).adopt (w.heap.size + 1)) db s := hW ▸ ((((h.alloc (.cells #[pt sb] 112)).alloc (.cells #[.int .i64 (s.cur.now.root : Int)] 3)).adopt (k := w.heap.size) (by simp; omega) n1).adopt (k := w.heap.size + 1) (by simp) n2)
  have hB : Below w.heap.size w W := hW ▸ ((Below.refl w.heap.size w).alloc (Nat.le_refl _) _).alloc (by simp) _
  have K0 := ((Ks.ofBelow h hB).adopt _ (Nat.le_refl _) n1).adopt _ (by omega) n2
  have B1 : Box W ((y.adopt w.heap.size).adopt (w.heap.size + 1)).role w.heap.size (pt sb) := ⟨by rw [adopt_other _ (by omega)]; exact adopt_const _ _, hW ▸ cell_alloc (cell_alloc_new w _ _) _⟩
  have B2 : Box W ((y.adopt w.heap.size).adopt (w.heap.size + 1)).role (w.heap.size + 1) (.int .i64 (s.cur.now.root : Int)) := ⟨adopt_const _ _, by
    have := cell_alloc_new (w.alloc (.cells #[pt sb] 112)) (.int .i64 (s.cur.now.root : Int)) 3
    rw [size_alloc'] at this
    rw [hW]; exact this⟩
  have H1 := h3.setNowRoot p
  have k1 := h3.set_ks 0 (.int .i64 (p : Int))
  have C0 : (w.alloc (.cells #[pt sb] 112)).cell? ⟨sb, 0, none⟩ = some (.int .i64 (s.cur.now.root : Int)) := (h.alloc _).croot
  have C1 : (W.setCell ⟨sb, 0, none⟩ (.int .i64 (p : Int))).cell? ⟨w.heap.size, 0, none⟩ = some (pt sb) := (B1.ks k1).2
  have f0 : W.frozen? ⟨sb, 0, none⟩ = false := h3.frozen 0
  have c0 : W.cell? ⟨sb, 0, none⟩ = some (.int .i64 (s.cur.now.root : Int)) := h3.croot
  have c1 : W.cell? ⟨w.heap.size, 0, none⟩ = some (pt sb) := B1.2
  have K1 := Lib.hid (K0.trans k1)
  have H1 := Lib.hid H1
  have B1 := Lib.hid (B1.ks k1)
  have B2 := Lib.hid (B2.ks k1)
  have hmk := hmf
  subst hW
  clear h h3 hB K0 k1 n1 n2
  go_enter Tryz.func59, Tryz.ntmps59
  go_wp2_with (go_at_call 91; refine (did_any H1.out _ (.root s.cur.now.root) s.cur ⟨_, _, rfl, B2.out, B1.out⟩ (by show y.m < _; omega)).mono ?_; rintro e w2 ⟨rfl, y2, h2, k2, m2⟩; have H2 := Lib.hid h2; have K2 := Lib.hid k2; clear h2 k2)
  first | go_end0 | (simp only [Exit.inBlock, Exit.then]; refine bodyPost_ret (results_none rfl _ _ _) rfl ?_) | refine bodyPost_ret (results_none rfl _ _ _) rfl ?_
  have m2 : y2.m ≤ y.m + 1 := m2
  exact ⟨rfl, _, did_setRoot s p ▸ H2.out, K1.out.trans K2.out, by omega⟩
end
end Go.Proofs.YtnpebfolmdbipaaGreatDoor.Sk

namespace Go.Proofs.YtnpebfolmdbipaaGreatDoor.Sk
set_option maxRecDepth 8000
set_option linter.unusedVariables false
set_option linter.unusedSimpArgs false
open Go.RowKit Mem Go.ChangeMaps
open Dk (cod elem cod_inj elem_mk elem_inv key key_inj wf_key keyed3 MapIs Fr ptr hmf cell_alloc cell_alloc_new zero42 IsD Dsk Lay)
section
variable {w w' : World} {sb db : Nat} {y : SLay} {s : Sto} {yd : Dk.Lay} {d : Dk.Dsk}
/-- Is the store dead, or its disk? -/
def gone (s : Sto) (d : Dsk) : Bool := s.dead || d.dead
theorem sdead_any (h : IsS w sb y db s) (hd : IsD w db yd d) : Calls Tryz.prog 29 #[pt sb] w fun e w' => e = .returned (.bool (gone s d)) ∧ w' = w := by
  have c1 := h.cdead
  have c2 := h.cdisk
  have HD := Lib.hid hd
  unfold gone
  clear h hd
  by_cases hs : s.dead = true
  · rw [hs] at c1 ⊢
    go_enter Tryz.func29, Tryz.ntmps29
    go_wp2_with fail
    go_ret
    exact ⟨rfl, rfl⟩
  · have hs' : s.dead = false := by simpa using hs
    rw [hs'] at c1 ⊢
    clear hs hs'
    go_enter Tryz.func29, Tryz.ntmps29
    go_wp2_with (go_at_call 34; refine (Dk.dead_any HD.out).mono ?_; rintro e w1 ⟨rfl, rfl⟩)
    go_ret
    exact ⟨by rw [Bool.false_or]; rfl, rfl⟩
/-- A call through ask. -/
theorem ask_any (h : IsS w sb y db s) (hd : IsD w db yd d) (F : Nat) (cap : Array Value) (hin : ∀ W, (callFunc F cap).run Tryz.prog W = .ok (.enter F cap) W) (Q : Int → World → Prop) (hf : gone s d = false → Calls Tryz.prog F cap w fun e w' => ∃ r, e = .returned (.int .i64 r) ∧ Q r w') :
    Calls Tryz.prog 47 #[pt sb, .func (.func F) #[] cap] w fun e w' => (gone s d = true ∧ e = .returned (.int .i64 9) ∧ w' = w) ∨ (gone s d = false ∧ ∃ r, e = .returned (.int .i64 r) ∧ Q r w') := by
  have c2 := h.cdisk
  have H := Lib.hid h
  have HD := Lib.hid hd
  have HF := Lib.hid hf
  clear h hd hf
  by_cases hg : gone s d = true
  · have hk := (sdead_any H.out HD.out)
    rw [hg] at hk
    have HK := Lib.hid hk
    clear hk
    go_enter Tryz.func47, Tryz.ntmps47
    go_wp2_with (go_at_call 29; refine HK.out.mono ?_; rintro e w1 ⟨rfl, rfl⟩)
    go_ret
    exact .inl ⟨hg, rfl, rfl⟩
  · have hg' : gone s d = false := by simpa using hg
    have hk := (sdead_any H.out HD.out)
    rw [hg'] at hk
    have HK := Lib.hid hk
    have HQ := Lib.hid (HF.out hg')
    have HG := Lib.hid hg'
    clear hk hg hg' HF
    go_enter Tryz.func47, Tryz.ntmps47
    go_wp2_with (first
      | (with_reducible refine HQ.out.mono ?_; rintro e w1 ⟨r, rfl, hq⟩; have Hq := Lib.hid hq; clear hq)
      | (go_at_call 29; refine HK.out.mono ?_; rintro e w1 ⟨rfl, rfl⟩))
    go_ret
    exact .inr ⟨HG.out, _, rfl, Hq.out⟩
theorem ask_nil (w : World) (f : Value) : Calls Tryz.prog 47 #[.pointer none, f] w fun e w' => e = .returned (.int .i64 8) ∧ w' = w := by
  go_enter Tryz.func47, Tryz.ntmps47
  go_wp2
  go_ret
  exact ⟨rfl, rfl⟩

/-! ### How many pages are not free -/
def cntTo (f : Nat → Bool) : Nat → Nat
  | 0 => 0
  | k + 1 => cntTo f k + (f k).toNat
theorem ones_any (x : Int) (w : World) (h0 : 0 ≤ x) (h1 : x ≤ 255) : Calls Tryz.prog 110 #[.int .u8 x] w fun e w' => e = .returned (.int .i64 (Lib.onesCount x.toNat)) ∧ w' = w := by
  rw [← Lib.pop8_int x h0 h1]
  go_enter Tryz.func110, Tryz.ntmps110
  go_wp2
  go_ret
  generalize Lib.pop8 x = q
  refine ⟨?_, rfl⟩
  show Ending.returned (Value.int IntKind.i64 (wrap64 q)) = _
  unfold wrap64
  rfl
def bitsOf (x : Nat) : Nat := (x.testBit 0).toNat + (x.testBit 1).toNat + (x.testBit 2).toNat + (x.testBit 3).toNat + (x.testBit 4).toNat + (x.testBit 5).toNat + (x.testBit 6).toNat + (x.testBit 7).toNat
set_option maxRecDepth 100000 in
theorem ones_bits : ∀ n : Fin 256, Lib.onesCount n.val = bitsOf n.val := by decide +kernel
theorem ones_bits' (n : Nat) (h : n < 256) : Lib.onesCount n = bitsOf n := ones_bits ⟨n, h⟩
theorem cnt8 (f : Nat → Bool) (m : Nat) : cntTo f (m + 8) = cntTo f m + ((f (m + 0)).toNat + (f (m + 1)).toNat + (f (m + 2)).toNat + (f (m + 3)).toNat + (f (m + 4)).toNat + (f (m + 5)).toNat + (f (m + 6)).toNat + (f (m + 7)).toNat) := by
  show cntTo f m + (f m).toNat + (f (m + 1)).toNat + (f (m + 2)).toNat + (f (m + 3)).toNat + (f (m + 4)).toNat + (f (m + 5)).toNat + (f (m + 6)).toNat + (f (m + 7)).toNat = _
  simp only [Nat.add_zero, Nat.add_assoc]
theorem ones_pk (f : Nat → Bool) (j : Nat) : cntTo f (8 * j) + Lib.onesCount (pk f j) = cntTo f (8 * (j + 1)) := by
  rw [ones_bits' _ (pk_lt f j)]
  unfold bitsOf
  rw [pk_bit f j 0 (by omega), pk_bit f j 1 (by omega), pk_bit f j 2 (by omega), pk_bit f j 3 (by omega), pk_bit f j 4 (by omega), pk_bit f j 5 (by omega), pk_bit f j 6 (by omega), pk_bit f j 7 (by omega)]
  rw [show 8 * (j + 1) = 8 * j + 8 by omega, cnt8]
theorem cntTo_le (f : Nat → Bool) (k : Nat) : cntTo f k ≤ k := by
  induction k with
  | zero => exact Nat.le_refl _
  | succ k ih => unfold cntTo; cases f k <;> simp <;> omega
def Sto.used (s : Sto) (p : Nat) : Bool := s.cur.now.has p || s.kept.has p
theorem pk_or (f g : Nat → Bool) (j : Nat) : bits BinOp.or IntKind.u8 (pk f j : Int) (pk g j : Int) = (pk (fun p => f p || g p) j : Int) := by
  rw [u8_or_nat _ _ (pk_lt f j) (pk_lt g j)]
  congr 1
  refine pk_of _ _ _ (Nat.or_lt_two_pow (n := 8) (pk_lt f j) (pk_lt g j)) fun i hi => ?_
  rw [Nat.testBit_or, pk_bit f j i hi, pk_bit g j i hi]

/-- The bits' cells, as they are loaded. -/
def bcells (t : Sta) : List Value := (List.range 512).map fun j => .int .u8 (pk t.has j : Int)
theorem bcells_at (t : Sta) (j : Nat) (hj : j < 512) : (bcells t)[j]? = some (.int .u8 (pk t.has j : Int)) := by simp [bcells, hj]
theorem info71 : (Tryz.prog.info? 80).map (·.size) = some 512 := by kernel_rfl
theorem range71 {b o : Nat} {t : Sta} (h : StaAt w b o t) : w.rangeAt b (o + 1) (bcells t) := fun j v hv => by
  have hj : j < 512 := by have := (List.getElem?_eq_some_iff.1 hv).1; simpa [bcells] using this
  rw [bcells_at t j hj] at hv
  injection hv with hv; subst hv
  exact h.byte j hj
theorem info71b (t : Sta) : (Tryz.prog.info? 80).map (·.size) = some (bcells t).length := by rw [info71]; simp [bcells]
theorem size5 (W : World) : (Go.sizeOf 5).run Tryz.prog W = .ok 1 W := by
  obtain ⟨i, hi, hz, hs, hb⟩ := byteTy.info
  simp [Go.sizeOf, typeInfo, hi, hs]
theorem index71 (W : World) (t : Sta) (j : Nat) (hj : j < 512) : (Instr.index 80 (.agg (bcells t).toArray) (.int .i64 j)).run Tryz.prog W = .ok (.int .u8 (pk t.has j : Int)) W := by
  have h1 : (0 : Int) ≤ (j : Int) ∧ (j : Int) < 512 := by omega
  have h2 := bcells_at t j hj
  obtain ⟨i, hi, hz, hs, hb⟩ := byteTy.info
  generalize bcells t = cs at h2 ⊢
  simp [Instr.index, asIntOf, run_underlying Tryz.underlying80, size5, part, h1]
  rw [if_pos hj, h2]; rfl

set_option maxHeartbeats 1000000 in
theorem busy_any (h : IsS w sb y db s) : Calls Tryz.prog 80 #[pt sb] w fun e w' => e = .returned (.int .i64 (cntTo s.used 4096 : Nat)) ∧ w' = w := by
  have hr := range71 (o := 0) h.now
  rw [Nat.zero_add] at hr
  have ld := Lib.hid (And.intro hr (info71b s.cur.now))
  have hix := fun W j hj => index71 W s.cur.now j hj
  have hk := fun j (hj : j < 512) => h.kept.byte j hj
  generalize bcells s.cur.now = ar at ld hix
  clear hr
  go_enter Tryz.func80, Tryz.ntmps80
  go_wp2_with (refine wpList_load_mid rfl 80 _ rfl sb 1 rfl _ _ ld.out.1 Tryz.underlying80 rfl ld.out.2 ?_)
  have hkept := Lib.hid hk
  have hidx := Lib.hid hix
  have hor := Lib.hid (pk_or s.cur.now.has s.kept.has)
  clear hk hix
  go_loop [3, 11] (fun n i => ∃ k : Nat, k ≤ 512 ∧ i = .int .i64 k ∧ n = .int .i64 (cntTo s.used (8 * k) : Nat)) (fun _ i => 512 - (intOf i).toNat)
  case atStart => exact ⟨0, Nat.zero_le _, rfl, rfl⟩
  case round =>
    obtain ⟨k, hk, rfl, rfl⟩ := hrel
    by_cases hlt : k < 512
    · have c1 := hkept.out k hlt
      rw [show 513 + 1 + k = 514 + k by omega] at c1
      have x1 := hidx.out w k hlt
      have hlt' : (k : Int) < 512 := by omega
      have hs := Lib.hid (ones_pk s.used k)
      have hle := cntTo_le s.used (8 * (k + 1))
      have p1 : pk s.used k < 256 := pk_lt _ _
      have po : bits BinOp.or IntKind.u8 (pk s.cur.now.has k : Int) (pk s.kept.has k : Int) = (pk s.used k : Int) := hor.out k
      have on := ones_any (pk s.used k : Int) w (by omega) (by omega)
      rw [Int.toNat_natCast] at on
      have ON := Lib.hid on
      clear on
      go_wp2_with (go_at_call 110; refine ON.out.mono ?_; rintro e w1 ⟨rfl, rfl⟩)
      go_round
      case rel =>
        refine ⟨k + 1, by omega, by go_num, ?_⟩
        have hs := hs.out
        refine congrArg (Value.int IntKind.i64) ?_
        unfold wrap64; omega
      case measure => simp [intOf]; omega
    · obtain rfl : k = 512 := by omega
      clear hkept hidx
      go_wp2
      go_ret
      exact ⟨rfl, rfl⟩

/-- The free page of the least number, or 0. -/
def IsSpare (s : Sto) (p : Nat) : Prop := (p = 0 ∧ ∀ q, 2 ≤ q → q < s.n → s.free q = false) ∨ (2 ≤ p ∧ p < s.n ∧ s.free p = true ∧ ∀ q, 2 ≤ q → q < p → s.free q = false)
theorem IsSpare.one {s : Sto} {p q : Nat} (h : IsSpare s p) (k : IsSpare s q) : p = q := by
  rcases h with ⟨rfl, h⟩ | ⟨h1, h2, h3, h4⟩ <;> rcases k with ⟨rfl, k⟩ | ⟨k1, k2, k3, k4⟩
  · rfl
  · rw [h q k1 k2] at k3; cases k3
  · rw [k p h1 h2] at h3; cases h3
  · rcases Nat.lt_trichotomy p q with e | e | e
    · rw [k4 p h1 e] at h3; cases h3
    · exact e
    · rw [h4 q k1 e] at k3; cases k3
set_option maxHeartbeats 1000000 in
theorem spare_any (h : IsS w sb y db s) (hn : s.n ≤ 4096) : Calls Tryz.prog 49 #[pt sb, .int .i64 (s.n : Int)] w fun e w' => (∃ p, IsSpare s p ∧ e = .returned (.int .i64 (p : Int))) ∧ w' = w := by
  have H := Lib.hid h
  clear h
  go_enter Tryz.func49, Tryz.ntmps49
  go_wp2
  go_loop [5] (fun i => ∃ k : Nat, 2 ≤ k ∧ (k ≤ s.n ∨ k = 2) ∧ i = .int .i64 k ∧ Hid (∀ q, 2 ≤ q → q < k → s.free q = false)) (fun i => s.n - (intOf i).toNat)
  case atStart => exact ⟨2, Nat.le_refl _, by omega, rfl, Lib.hid fun q h1 h2 => by omega⟩
  case round =>
    obtain ⟨k, hk2, hkn, rfl, hall⟩ := hrel
    by_cases hlt : k < s.n
    · have hlt' : (k : Int) < (s.n : Int) := by omega
      have A1 := Lib.hid (has_any w sb 0 s.cur.now k H.out.now)
      have A2 := Lib.hid (has_any w sb 513 s.kept k H.out.kept)
      have e1 := hasI_nat s.cur.now k (by omega)
      have e2 := hasI_nat s.kept k (by omega)
      rw [e1] at A1
      rw [e2] at A2
      clear e1 e2
      by_cases h1 : s.cur.now.has k = true
      · have hf : s.free k = false := by simp [Sto.free, h1]
        rw [h1] at A1
        have hall2 := Lib.hid (show ∀ q, 2 ≤ q → q < k + 1 → s.free q = false from fun q h1 h2 => by
          by_cases e : q = k
          · rw [e]; exact hf
          · exact hall.out q h1 (by omega))
        clear h1 hf
        go_wp2_with (first
          | (go_at_call 55; with_reducible refine A1.out.mono ?_; rintro e w1 ⟨rfl, rfl⟩)
          | (go_at_call 55; with_reducible refine A2.out.mono ?_; rintro e w1 ⟨rfl, rfl⟩))
        go_round
        case rel => exact ⟨k + 1, by omega, by omega, by go_num, hall2⟩
        case measure => simp [intOf]; omega
      · have h1' : s.cur.now.has k = false := by simpa using h1
        rw [h1'] at A1
        by_cases h2 : s.kept.has k = true
        · have hf : s.free k = false := by simp [Sto.free, h2]
          rw [h2] at A2
          have hall2 := Lib.hid (show ∀ q, 2 ≤ q → q < k + 1 → s.free q = false from fun q h1 h2 => by
            by_cases e : q = k
            · rw [e]; exact hf
            · exact hall.out q h1 (by omega))
          clear h1 h1' h2 hf
          go_wp2_with (first
            | (go_at_call 55; with_reducible refine A1.out.mono ?_; rintro e w1 ⟨rfl, rfl⟩)
            | (go_at_call 55; with_reducible refine A2.out.mono ?_; rintro e w1 ⟨rfl, rfl⟩))
          go_round
          case rel => exact ⟨k + 1, by omega, by omega, by go_num, hall2⟩
          case measure => simp [intOf]; omega
        · have h2' : s.kept.has k = false := by simpa using h2
          have hf : Hid (s.free k = true) := Lib.hid (by simp [Sto.free, h1', h2'])
          rw [h2'] at A2
          clear h1 h1' h2 h2'
          go_wp2_with (first
            | (go_at_call 55; with_reducible refine A1.out.mono ?_; rintro e w1 ⟨rfl, rfl⟩)
            | (go_at_call 55; with_reducible refine A2.out.mono ?_; rintro e w1 ⟨rfl, rfl⟩))
          go_ret
          exact ⟨⟨k, .inr ⟨hk2, hlt, hf.out, hall.out⟩, rfl⟩, rfl⟩
    · have hge : ¬ (k : Int) < (s.n : Int) := by omega
      have R := Lib.hid (show IsSpare s 0 from .inl ⟨rfl, fun q h1 h2 => hall.out q h1 (by omega)⟩)
      go_wp2
      go_ret
      exact ⟨⟨0, R.out, rfl⟩, rfl⟩
end
end Go.Proofs.YtnpebfolmdbipaaGreatDoor.Sk

namespace Go.Proofs.YtnpebfolmdbipaaGreatDoor.Sk
set_option maxRecDepth 8000
set_option linter.unusedVariables false
set_option linter.unusedSimpArgs false
open Go.RowKit Mem Go.ChangeMaps
open Dk (cod elem cod_inj elem_mk elem_inv key key_inj wf_key keyed3 MapIs Fr ptr hmf cell_alloc cell_alloc_new zero42 IsD Dsk Lay)

/-! ### Structs built -/
theorem foldl_put (off : Nat) : ∀ (vs : List Value) (k : Nat) (a : Array Value), off + k + vs.length ≤ a.size →
    ((vs.zipIdx k).foldl (fun (cs : Array Value) (x : Value × Nat) => cs.setIfInBounds (off + x.2) x.1) a).toList = a.toList.take (off + k) ++ (vs ++ a.toList.drop (off + k + vs.length))
  | [], k, a, h => by simp
  | v :: vs, k, a, h => by
    rw [List.length_cons] at h
    rw [List.zipIdx_cons, List.foldl_cons, foldl_put off vs (k + 1) _ (by simp; omega)]
    have hl : off + k < a.toList.length := by simp; omega
    have e : (a.setIfInBounds (off + k) v).toList = a.toList.set (off + k) v := by simp
    simp only [e]
    rw [show off + (k + 1) = off + k + 1 by omega, List.take_succ_eq_append_getElem (by simp; omega), List.take_set_of_le (Nat.le_refl _)]
    rw [List.getElem_set_self, List.drop_set_of_lt (by omega)]
    simp only [List.append_assoc, List.cons_append, List.nil_append, List.length_cons]
    rw [show off + k + 1 + vs.length = off + k + (vs.length + 1) by omega]
theorem fill_one (place : Nat → Option (Nat × Nat)) (cells : Array Value) (i : Nat) (v : Value) (rest : List (Nat × Value)) (off : Nat) (hp : place i = some (off, v.cells.size)) (hs : off + v.cells.size ≤ cells.size) :
    Instr.fill place cells ((i, v) :: rest) = Instr.fill place (cells.toList.take off ++ (v.cells.toList ++ cells.toList.drop (off + v.cells.size))).toArray rest := by
  rw [Instr.fill, hp]
  simp only [ne_eq, not_true_eq_false, decide_false, Bool.false_or, decide_eq_true_eq]
  rw [if_neg (by simp; omega)]
  have := foldl_put off v.cells.toList 0 cells (by simp; omega)
  rw [Nat.add_zero] at this
  rw [← Array.foldl_toList, Array.toList_zipIdx]
  refine congrArg (fun a => Instr.fill place a rest) ?_
  apply Array.toList_inj.1
  rw [List.toList_toArray, ← Array.length_toList]
  exact this
/-- The zero state's cells; the zero change's. -/
def zs : List Value := .int .i64 0 :: List.replicate 512 (.int .u8 0)
def z77 : List Value := zs ++ (zs ++ [.map none, .bool false, .slice none 0 0, .slice none 0 0])
theorem zs_len : zs.length = 513 := by kernel_rfl
theorem z77_len : z77.length = 1030 := by kernel_rfl
theorem zinfo73 : (Tryz.prog.info? 82).map (fun i => (i.zero, i.size)) = some (some (.agg zs.toArray), 513) := by kernel_rfl
theorem zinfo77 : (Tryz.prog.info? 87).map (fun i => (i.zero, i.size)) = some (some (.agg z77.toArray), 1030) := by kernel_rfl
theorem sizeOf_of {t : TypeId} {n : Nat} (h : (Tryz.prog.info? t).map (·.size) = some n) (W : World) : (Go.sizeOf t).run Tryz.prog W = .ok n W := by
  cases hq : Tryz.prog.info? t with
  | none => simp [hq] at h
  | some i => simp [hq] at h; simp [Go.sizeOf, typeInfo, hq, h]
theorem size73 (W : World) : (Go.sizeOf 82).run Tryz.prog W = .ok 513 W := sizeOf_of (by kernel_rfl) W
theorem size67 (W : World) : (Go.sizeOf 83).run Tryz.prog W = .ok 1 W := sizeOf_of (by kernel_rfl) W
theorem size4 (W : World) : (Go.sizeOf 4).run Tryz.prog W = .ok 1 W := sizeOf_of (by kernel_rfl) W
theorem size74 (W : World) : (Go.sizeOf 84).run Tryz.prog W = .ok 1 W := sizeOf_of (by kernel_rfl) W
theorem size75 (W : World) : (Go.sizeOf 85).run Tryz.prog W = .ok 1 W := sizeOf_of (by kernel_rfl) W
theorem build77 (A B : List Value) (hA : A.length = 513) (hB : B.length = 513) (b : Nat) (W : World) :
    (Instr.build 87 #[(0, .agg A.toArray), (1, .agg B.toArray), (2, .map (some b))]).run Tryz.prog W = .ok (.agg (A ++ (B ++ [Value.map (some b), Value.bool false, Value.slice none 0 0, Value.slice none 0 0])).toArray) W := by
  have hz := (zero_of_info zinfo77).1 W
  have hzl := z77_len
  have hzz : z77 = zs ++ (zs ++ [Value.map none, Value.bool false, Value.slice none 0 0, Value.slice none 0 0]) := rfl
  have hsl := zs_len
  generalize z77 = z at hz hzl hzz
  generalize zs = y at hzz hsl
  simp only [Instr.build, Sem.run_bind, hz, Result.andThen_ok, Value.cells, run_underlying Tryz.underlying87]
  simp [size73, size67, size4, size74, size75]
  have e1 : z.take 0 ++ (A ++ z.drop (0 + 513)) = A ++ (y ++ [Value.map none, Value.bool false, Value.slice none 0 0, Value.slice none 0 0]) := by
    rw [hzz, List.take_zero, List.nil_append, Nat.zero_add, List.drop_left' hsl]
  have e2 : (A ++ (y ++ [Value.map none, Value.bool false, Value.slice none 0 0, Value.slice none 0 0])).take 513 ++ (B ++ (A ++ (y ++ [Value.map none, Value.bool false, Value.slice none 0 0, Value.slice none 0 0])).drop (513 + 513)) = A ++ (B ++ [Value.map none, Value.bool false, Value.slice none 0 0, Value.slice none 0 0]) := by
    rw [List.take_left' hA, ← List.append_assoc A y, List.drop_left' (by rw [List.length_append]; omega)]
  have e3 : (A ++ (B ++ [Value.map none, Value.bool false, Value.slice none 0 0, Value.slice none 0 0])).take 1026 ++ ([Value.map (some b)] ++ (A ++ (B ++ [Value.map none, Value.bool false, Value.slice none 0 0, Value.slice none 0 0])).drop (1026 + 1)) = A ++ (B ++ [Value.map (some b), Value.bool false, Value.slice none 0 0, Value.slice none 0 0]) := by
    have hAB : (A ++ B).length = 1026 := by rw [List.length_append]; omega
    have hd : ∀ (x : Value) (r : List Value), ((A ++ B) ++ (x :: r)).drop (1026 + 1) = r := fun x r => by
      rw [show (A ++ B) ++ (x :: r) = ((A ++ B) ++ [x]) ++ r by simp, List.drop_left' (by rw [List.length_append, hAB]; rfl)]
    rw [← List.append_assoc A B, List.take_left' hAB, hd, List.append_assoc]
    rfl
  rw [fill_one _ _ 0 (.agg A.toArray) _ 0 (by simp [Value.cells, hA]) (by simp [Value.cells, hA, hzl])]
  simp only [Value.cells, List.size_toArray, hA]
  rw [e1]
  rw [fill_one _ _ 1 (.agg B.toArray) _ 513 (by simp [Value.cells, hB]) (by simp [Value.cells, hA, hB, hsl])]
  simp only [Value.cells, List.size_toArray, hB]
  rw [e2]
  rw [fill_one _ _ 2 (.map (some b)) _ 1026 (by simp [Value.cells]) (by simp [Value.cells, hA, hB])]
  simp only [Value.cells, List.size_toArray, List.length_cons, List.length_nil]
  rw [e3]
  rfl

/-- A state's cells, as a list. -/
def scs (t : Sta) : List Value := (List.range 513).map (stc t)
theorem scs_len (t : Sta) : (scs t).length = 513 := by simp [scs]
theorem scs_at (t : Sta) (j : Nat) (hj : j < 513) : (scs t)[j]? = some (stc t j) := by simp [scs, hj]
theorem info73 (t : Sta) : (Tryz.prog.info? 82).map (·.size) = some (scs t).length := by rw [scs_len]; kernel_rfl
theorem StaAt.range {w : World} {b o : Nat} {t : Sta} (h : StaAt w b o t) : w.rangeAt b o (scs t) := fun j v hv => by
  have hj : j < 513 := by have := (List.getElem?_eq_some_iff.1 hv).1; rwa [scs_len] at this
  rw [scs_at t j hj] at hv
  injection hv with hv; subst hv
  exact h j hj
theorem one_scs (t : Sta) : ∀ v ∈ scs t, v.oneCell' = true := by
  intro v hv
  simp only [scs, List.mem_map] at hv
  obtain ⟨j, _, rfl⟩ := hv
  unfold stc; split <;> rfl
section
variable {w w' : World} {sb db : Nat} {y : SLay} {s : Sto}
theorem rowIs_setCells {b : Nat} {t : TypeId} {n : Nat} : ∀ (vs : List Value) (o : Nat) (f : Nat → Value) {w : World}, w.rowIs b t n f → (w.setCells b o vs).rowIs b t n (fun j => if o ≤ j then (vs[j - o]?).getD (f j) else f j)
  | [], o, f, w, h => h.congr fun j hj => by simp
  | v :: vs, o, f, w, h => by
    refine (rowIs_setCells vs (o + 1) _ (h.set o v)).congr fun j hj => ?_
    rcases Nat.lt_trichotomy j o with e | e | e
    · rw [if_neg (by omega), if_neg (by omega), if_neg (by omega)]
    · subst e
      rw [if_neg (by omega), if_pos rfl, if_pos (Nat.le_refl _), Nat.sub_self]; rfl
    · rw [if_pos (show o + 1 ≤ j by omega), if_pos (show o ≤ j by omega), if_neg (show ¬ j = o by omega)]
      rw [show j - o = (j - (o + 1)) + 1 by omega]; rfl
theorem setCells_fr (b : Nat) : ∀ (vs : List Value) (o : Nat) (w : World), Fr (fun k => k = b) w (w.setCells b o vs)
  | [], o, w => Fr.refl _ _
  | v :: vs, o, w => (Fr.setCell (F := fun k => k = b) w ⟨b, o, none⟩ (fun _ => rfl) v).trans (setCells_fr b vs (o + 1) _) fun _ _ e => e
theorem rowIs_there {b : Nat} {t : TypeId} {n : Nat} {f : Nat → Value} (h : w.rowIs b t n f) (o k : Nat) (hk : o + k ≤ n) : w.there b o k := fun j hj => ⟨by rw [h.cell (by omega)]; rfl, h.frozen _⟩
/-- The cells of a change of nothing. -/
def bcell (t : Sta) (fm : Nat) (i : Nat) : Value := if i < 513 then stc t i else if i < 1026 then stc t (i - 513) else if i = 1026 then .map (some fm) else if i = 1027 then .bool false else .slice none 0 0
theorem wpList_build {ops : Array Oper} {rest : List Oper} {o : Oper} {a : Act} {w : World} {Q : Exit → Act → World → Prop} (hgd : o.guard = none) (t : TypeId) (parts : Array (Nat × Operand)) (ho : o.op = .build t parts) (vs : List (Nat × Value)) (hv : parts.toList.map (fun p => (p.1, a.eval p.2)) = vs) (v : Value) (hrun : (Instr.build t vs.toArray).run Tryz.prog w = .ok v w)
    (h : wpList Tryz.prog ops Q rest (a.put o.dst v) w) : wpList Tryz.prog ops Q (o :: rest) a w := by
  have hv2 : parts.map (fun p => (p.1, a.eval p.2)) = vs.toArray := by
    apply Array.toList_inj.1
    rw [Array.toList_map, hv]
  refine wpList_plain hgd fun K hK => ?_
  unfold Oper.wp execOp
  have hv3 : (parts.map fun x => match x with | (i, x) => (i, a.eval x)) = vs.toArray := hv2
  simp only [ho, hv3, Sem.run_bind, Sem.run_pure, Result.andThen_ok, hrun]
  exact hK _ _ h
set_option maxHeartbeats 1000000 in
theorem begin_row (f : Nat → Value) (t : Sta) (h : w.rowIs sb 89 1034 f) :
    Calls Tryz.prog 66 #[pt sb, .agg (scs t).toArray] w fun e w' => e = .returned (.tuple #[]) ∧ w'.rowIs sb 89 1034 (fun i => if i < 1030 then bcell t (w.heap.size + 1) i else f i) ∧ MapN w' (w.heap.size + 1) 0 (fun _ => none) ∧ Fr (fun k => k = sb) w w' := by
  have hlt := h.lt
  obtain ⟨W1, hW1⟩ : ∃ W1, W1 = w.alloc (.cells (scs t).toArray 82) := ⟨_, rfl⟩
  have hr : W1.rangeAt w.heap.size 0 (scs t) := fun j v hv => by
    rw [hW1, Nat.zero_add, cell_of_row _ _ _ _ _ _ (heap_alloc_new w _)]
    simpa using hv
  obtain ⟨L, hL⟩ : ∃ L, L = scs t ++ (scs t ++ [Value.map (some (w.heap.size + 1)), Value.bool false, Value.slice none 0 0, Value.slice none 0 0]) := ⟨_, rfl⟩
  have hLl : L.length = 1030 := by rw [hL]; simp [scs_len]
  have hb : ∀ W, (Instr.build 87 #[(0, .agg (scs t).toArray), (1, .agg (scs t).toArray), (2, .map (some (w.heap.size + 1)))]).run Tryz.prog W = .ok (.agg L.toArray) W := fun W => hL ▸ build77 (scs t) (scs t) (scs_len t) (scs_len t) _ W
  have hro : (W1.alloc (.map #[] 0)).rowIs sb 89 1034 f := (hW1 ▸ h.alloc _).alloc _
  have hI : (Tryz.prog.info? 87).map (·.size) = some L.toArray.size := by simp only [List.size_toArray, hLl]; kernel_rfl
  have ht := rowIs_there hro 0 L.toArray.size (by simp [hLl])
  have h1 : L.toArray.all (·.oneCell') = true := all_oneCell_toArray (fun v hv => by
    rw [hL] at hv
    simp only [List.mem_append, List.mem_cons, List.not_mem_nil, or_false] at hv
    rcases hv with hv | hv | rfl | rfl | rfl | rfl <;> first | exact one_scs t v hv | rfl)
  have hmm := @run_makeMap Tryz.prog
  have HL := Lib.hid (And.intro hr (And.intro (info73 t) (And.intro hI (And.intro ht h1))))
  have HR := Lib.hid (rowIs_setCells L 0 f hro)
  have HM := Lib.hid (MapN.made W1)
  have hLat : ∀ j, j < 1030 → L[j]? = some (bcell t (w.heap.size + 1) j) := fun j hj => by
    unfold bcell
    rw [hL]
    by_cases h1 : j < 513
    · rw [if_pos h1, List.getElem?_append_left (by rw [scs_len]; exact h1), scs_at t j h1]
    · rw [if_neg h1, List.getElem?_append_right (by rw [scs_len]; omega), scs_len]
      by_cases h2 : j < 1026
      · rw [if_pos h2, List.getElem?_append_left (by rw [scs_len]; omega), scs_at t _ (by omega)]
      · rw [if_neg h2, List.getElem?_append_right (by rw [scs_len]; omega), scs_len]
        rcases (by omega : j = 1026 ∨ j = 1027 ∨ j = 1028 ∨ j = 1029) with rfl | rfl | rfl | rfl <;> rfl
  have HB := Lib.hid (And.intro hLat hLl)
  have hz1 : W1.heap.size = w.heap.size + 1 := by rw [hW1]; simp
  have HF := Lib.hid (show Fr (fun k => k = sb) w ((W1.alloc (.map #[] 0)).setCells sb 0 L) from ((hW1 ▸ Fr.alloc w _ : Fr (fun k => k = sb) w W1).trans (Fr.alloc W1 _) fun _ _ e => e).trans (setCells_fr sb L 0 _) fun _ _ e => e)
  have HZ := Lib.hid hz1
  rw [hz1] at HM
  generalize scs t = cs at hW1 hb HL HB
  have HLT := Lib.hid hlt
  have HW := Lib.hid hW1
  have HBD := Lib.hid hb
  clear hb
  clear h hr hro hI ht h1 hL hLl hlt hW1
  go_enter Tryz.func66, Tryz.ntmps66
  go_wp2_with (first
    | (rw [← HW.out]; refine wpList_load_mid rfl 82 _ rfl w.heap.size 0 rfl _ _ HL.out.1 Tryz.underlying82 rfl HL.out.2.1 ?_)
    | (refine wpList_load_mid rfl 82 _ rfl w.heap.size 0 rfl _ _ HL.out.1 Tryz.underlying82 rfl HL.out.2.1 ?_)
    | (refine wpList_build rfl 87 _ rfl [(0, .agg cs.toArray), (1, .agg cs.toArray), (2, .map (some (w.heap.size + 1)))] rfl _ (HBD.out _) ?_)
    | (refine wpList_store_mid rfl 87 _ _ rfl sb 0 _ rfl rfl HL.out.2.2.2.1 HL.out.2.2.1 HL.out.2.2.2.2 ?_))
  first | go_end0 | (simp only [Exit.inBlock, Exit.then]; refine bodyPost_ret (results_none rfl _ _ _) rfl ?_) | refine bodyPost_ret (results_none rfl _ _ _) rfl ?_
  refine ⟨rfl, HR.out.congr fun j hj => ?_, HM.out.of_block ((setCells_fr sb L 0 _).block _ (by simp [HZ.out]) (fun e => by have := HLT.out; omega)), HF.out⟩
  rw [if_pos (Nat.zero_le _), Nat.sub_zero]
  by_cases e : j < 1030
  · rw [if_pos e, HB.out.1 j e]; rfl
  · rw [if_neg e, List.getElem?_eq_none (by rw [HB.out.2]; omega)]; rfl
/-- A store behind a change of nothing began. -/
theorem IsS.begun {w' : World} {sb db : Nat} {role : Nat → Option SRole} {s : Sto} {f : Nat → Value} {fm m : Nat} {t : Sta} (hrow : w'.rowIs sb 89 1034 (fun i => if i < 1030 then bcell t fm i else f i)) (hf : ∀ i, 1030 ≤ i → i < 1034 → f i = scell ⟨fm, m, fun _ => none, .slice none 0 0, .slice none 0 0, [], role⟩ db s i)
    (hm : MapN w' fm 0 (fun _ => none)) (hrs : role sb = some .store) (hrf : role fm = some .fresh) (hft : ∀ k, role k ≠ none → k < w'.heap.size) : IsS w' sb ⟨fm, m, fun _ => none, .slice none 0 0, .slice none 0 0, [], role⟩ db (s.begin t) :=
  { row := hrow.congr fun j hj => by
      by_cases e : j < 1030
      · rw [if_pos e]; unfold bcell scell
        by_cases h1 : j < 513
        · rw [if_pos h1, if_pos h1]; rfl
        · rw [if_neg h1, if_neg h1]
          by_cases h2 : j < 1026
          · rw [if_pos h2, if_pos h2]; rfl
          · rw [if_neg h2, if_neg h2]
            rcases (by omega : j = 1026 ∨ j = 1027 ∨ j = 1028 ∨ j = 1029) with rfl | rfl | rfl | rfl <;> rfl
      · rw [if_neg e, hf j (by omega) hj]
        rcases (by omega : j = 1030 ∨ j = 1031 ∨ j = 1032 ∨ j = 1033) with rfl | rfl | rfl | rfl <;> rfl
    map := hm.mono (Nat.zero_le _), freshOk := fun p hp => trivial
    marksOk := ⟨rfl, .inl ⟨rfl, rfl⟩⟩, undoOk := ⟨rfl, .inl ⟨rfl, rfl⟩⟩
    unAt := fun i v x h1 h2 => by simp [Sto.begin] at h2
    rs := hrs, rf := hrf, rm := fun k e => (by cases e), ru := fun k e => (by cases e)
    foot := hft, usLen := Nat.zero_le _, msLen := Nat.zero_le _ }
theorem begin_any (h : IsS w sb y db s) (t : Sta) :
    Calls Tryz.prog 66 #[pt sb, .agg (scs t).toArray] w fun e w' => e = .returned (.tuple #[]) ∧ ∃ y', IsS w' sb y' db (s.begin t) ∧ Ks w y w' y' ∧ y'.m = y.m := by
  refine (begin_row (scell y db s) t h.row).mono ?_
  rintro e w' ⟨rfl, h1, h2, h3⟩
  have hlt := h.row.lt
  have hn : y.role (w.heap.size + 1) = none := h.not_foot (by omega)
  refine ⟨rfl, ⟨w.heap.size + 1, y.m, fun _ => none, .slice none 0 0, .slice none 0 0, [], fun k => if k = w.heap.size + 1 then some .fresh else y.role k⟩, IsS.begun h1 (fun i hi hi2 => ?_) h2 ?_ ?_ ?_, ⟨⟨h3.mono fun b _ e => e ▸ h.fsb, ?_⟩, fun k hk => ⟨?_, ?_⟩⟩, rfl⟩
  · unfold scell
    rcases (by omega : i = 1030 ∨ i = 1031 ∨ i = 1032 ∨ i = 1033) with rfl | rfl | rfl | rfl <;> rfl
  · rw [if_neg (by omega)]; exact h.rs
  · rw [if_pos rfl]
  · intro k hk
    have hs := h3.size
    have h2l := h2.lt
    by_cases e : k = w.heap.size + 1
    · omega
    · rw [if_neg e] at hk
      have := h.foot k hk; omega
  · intro k hk hf
    unfold SLay.foot at hf
    simp only at hf
    rw [if_neg (by omega)] at hf
    exact hf
  · exact h3.block k (h.foot k (by simp [SLay.foot, hk])) (h.ne_const hk).1
  · show (if k = w.heap.size + 1 then some SRole.fresh else y.role k) = _
    rw [if_neg (fun e => by rw [e, hn] at hk; cases hk)]; exact hk
end
end Go.Proofs.YtnpebfolmdbipaaGreatDoor.Sk

namespace Go.Proofs.YtnpebfolmdbipaaGreatDoor.Sk
set_option maxRecDepth 8000
set_option linter.unusedVariables false
set_option linter.unusedSimpArgs false
open Go.RowKit Mem Go.ChangeMaps
open Dk (cod elem cod_inj elem_mk elem_inv key key_inj wf_key keyed3 MapIs Fr ptr hmf cell_alloc cell_alloc_new zero42 IsD Dsk Lay)
section
variable {w w' : World} {sb db : Nat} {y : SLay} {s : Sto} {yd : Dk.Lay} {d : Dk.Dsk}
theorem wpStill_load {ops : Array Oper} {Q : Act → Prop} {rest : List Oper} {op : Oper} {a : Act} (hgd : op.guard = none) (ty : TypeId) (x : Operand) (ho : op.op = .load ty x)
    (b o : Nat) (hx : a.eval x = .pointer (some ⟨b, o, none⟩)) (cs : List Value) (dd : TypeDesc) (hc : w.rangeAt b o cs)
    (hu : Tryz.prog.underlying ty = some dd) (hd : dd.isRow = true) (hi : (Tryz.prog.info? ty).map (·.size) = some cs.length)
    (h : wpStill Tryz.prog ops w Q rest (a.put op.dst (.agg cs.toArray))) : wpStill Tryz.prog ops w Q (op :: rest) a :=
  wpStill_step fun K hK => by
    rw [if_pos (by simp [Region.wanted, hgd])]
    unfold Oper.still execOp
    simp only [ho, hx, Instr.loadAt, Instr.sureAddr, Sem.run_bind, Sem.run_pure, Result.andThen_ok, run_loadVar_mid w b o ty cs dd hc hu hd hi]
    exact ⟨rfl, hK _ h⟩
set_option maxHeartbeats 1000000 in
theorem abort_any (h : IsS w sb y db s) :
    Calls Tryz.prog 25 #[pt sb] w fun e w' => e = .returned (.tuple #[]) ∧ ∃ y', IsS w' sb y' db (s.begin s.kept) ∧ Ks w y w' y' ∧ y'.m = y.m := by
  have ld := Lib.hid (And.intro h.drew.kept.range (info73 s.kept))
  have hb := Lib.hid (begin_any h.drew s.kept)
  generalize scs s.kept = ar at ld hb
  go_enter Tryz.func25, Tryz.ntmps25
  go_wp2
  go_still_tail 8, (by kernel_rfl)
  refine wpStill_load rfl 82 _ rfl sb 513 rfl _ _ ld.out.1 Tryz.underlying82 rfl ld.out.2 ?_
  refine wpStill_nil ?_
  change wpList _ _ _ _ _ w.drew
  go_wp2_with (go_at_call 66; refine hb.out.mono ?_; rintro e w1 ⟨rfl, y1, h1, k1, m1⟩; have H1 := Lib.hid h1; have K1 := Lib.hid k1; clear h1 k1)
  first | go_end0 | (simp only [Exit.inBlock, Exit.then]; refine bodyPost_ret (results_none rfl _ _ _) rfl ?_) | refine bodyPost_ret (results_none rfl _ _ _) rfl ?_
  exact ⟨rfl, y1, H1.out, (Ks.refl w y).drew.trans K1.out, m1⟩
theorem abort_nil (w : World) : Calls Tryz.prog 25 #[.pointer none] w fun e w' => e = .returned (.tuple #[]) ∧ w' = w := by
  go_enter Tryz.func25, Tryz.ntmps25
  go_wp2
  first | go_end0 | (simp only [Exit.inBlock, Exit.then]; refine bodyPost_ret (results_none rfl _ _ _) rfl ?_) | refine bodyPost_ret (results_none rfl _ _ _) rfl ?_
  exact ⟨rfl, rfl⟩
end
end Go.Proofs.YtnpebfolmdbipaaGreatDoor.Sk

namespace Go.Proofs.YtnpebfolmdbipaaGreatDoor.Sk
set_option maxRecDepth 8000
set_option linter.unusedVariables false
set_option linter.unusedSimpArgs false
open Go.RowKit Mem Go.ChangeMaps
open Dk (cod elem cod_inj elem_mk elem_inv key key_inj wf_key keyed3 MapIs Fr ptr hmf cell_alloc cell_alloc_new zero42 IsD Dsk Lay)
section
variable {w w' : World} {sb db : Nat} {y : SLay} {s : Sto} {yd : Dk.Lay} {d : Dk.Dsk}
theorem enter65 (args : Array Value) (W : World) : (callFunc 78 args).run Tryz.prog W = .ok (.enter 78 args) W := by kernel_rfl
theorem enter66 (args : Array Value) (W : World) : (callFunc 79 args).run Tryz.prog W = .ok (.enter 79 args) W := by kernel_rfl
/-- How many pages are free. -/
def Sto.left (s : Sto) : Nat := s.n - 2 - cntTo s.used 4096
theorem root1_any (h : IsS w sb y db s) (p q : Addr) (v : Value) (hp : w.cell? p = some (pt sb)) (hq : w.cell? q = some v) (fq : w.frozen? q = false) :
    Calls Tryz.prog 78 #[.pointer (some p), .pointer (some q)] w fun e w' => ∃ r, e = .returned (.int .i64 r) ∧ r = 0 ∧ w' = w.setCell q (.int .i64 (s.cur.now.root : Int)) := by
  have hc := h.croot
  clear h
  go_enter Tryz.func78, Tryz.ntmps78
  go_wp2
  go_ret
  exact ⟨_, rfl, rfl, rfl⟩
theorem left1_any (h : IsS w sb y db s) (hd : IsD w db yd d) (hn : s.n = d.n) (h5 : s.n ≤ 4096) (hle : cntTo s.used 4096 + 2 ≤ s.n) (p q : Addr) (v : Value) (hp : w.cell? p = some (pt sb)) (hq : w.cell? q = some v) (fq : w.frozen? q = false) :
    Calls Tryz.prog 79 #[.pointer (some p), .pointer (some q)] w fun e w' => ∃ r, e = .returned (.int .i64 r) ∧ r = 0 ∧ w' = (w.setCell q (.int .i64 (s.left : Int))).drew := by
  have hc := h.cdisk
  have b1 := busy_any h.drew
  have b2 := Dk.size_any (w := w.drew) hd.drew
  rw [← hn] at b2
  have hl : (s.left : Int) = (s.n : Int) - 2 - (cntTo s.used 4096 : Nat) := by unfold Sto.left; omega
  rw [hl]
  have i1 : wrap64 ((s.n : Int) - 2 - (cntTo s.used 4096 : Nat)) = (s.n : Int) - 2 - (cntTo s.used 4096 : Nat) := by unfold wrap64; omega
  have i2 : wrap64 ((s.n : Int) - 2) = (s.n : Int) - 2 := by unfold wrap64; omega
  have I1 := Lib.hid i1
  have I2 := Lib.hid i2
  generalize cntTo s.used 4096 = cn at b1 I1 hle
  generalize s.n = sn at b2 I1 I2 hle h5
  clear h hd hn hl i1 i2 hle h5
  go_enter Tryz.func79, Tryz.ntmps79
  go_wp2
  go_still_tail 11, (by kernel_rfl)
  still_call b2
  repeat still_step
  still_call b1
  repeat still_step
  refine wpStill_nil ?_
  change wpList _ _ _ _ _ w.drew
  go_wp2
  rw [I2.out, I1.out]
  go_ret
  exact ⟨_, rfl, rfl, rfl⟩
theorem frozen_alloc {w : World} {p : Addr} (hp : p.block < w.heap.size) (o : Obj) (h : w.frozen? p = false) : (w.alloc o).frozen? p = false := by
  obtain ⟨b, i, sp⟩ := p
  have := Below.heap_alloc w o b hp
  simp only [World.frozen?] at h ⊢
  rw [this]; exact h
theorem frozen_new (w : World) (v : Value) (t : TypeId) : (w.alloc (.cells #[v] t)).frozen? ⟨w.heap.size, 0, none⟩ = false :=
  (World.rowIs_alloc w #[v] t (fun _ => v) (fun i hi => by
    have : i = 0 := by simp at hi; omega
    subst this; rfl)).frozen 0
/-- Boxes that a call lays. -/
structure Bx2 (w W : World) (v1 v2 : Value) : Prop where
  c1 : W.cell? ⟨w.heap.size, 0, none⟩ = some v1
  c2 : W.cell? ⟨w.heap.size + 1, 0, none⟩ = some v2
  f2 : W.frozen? ⟨w.heap.size + 1, 0, none⟩ = false
  bel : Below w.heap.size w W
  sz : W.heap.size = w.heap.size + 2
theorem bx2 (w : World) (v1 v2 : Value) (t1 t2 : TypeId) : Bx2 w ((w.alloc (.cells #[v1] t1)).alloc (.cells #[v2] t2)) v1 v2 :=
  ⟨cell_alloc (cell_alloc_new w _ _) _, by have := cell_alloc_new (w.alloc (.cells #[v1] t1)) v2 t2; rwa [size_alloc'] at this,
   by have := frozen_new (w.alloc (.cells #[v1] t1)) v2 t2; rwa [size_alloc'] at this, ((Below.refl w.heap.size w).alloc (Nat.le_refl _) _).alloc (by simp) _, by simp⟩
structure Bx3 (w W : World) (v1 v2 v3 : Value) : Prop where
  c1 : W.cell? ⟨w.heap.size, 0, none⟩ = some v1
  c2 : W.cell? ⟨w.heap.size + 1, 0, none⟩ = some v2
  c3 : W.cell? ⟨w.heap.size + 2, 0, none⟩ = some v3
  f3 : W.frozen? ⟨w.heap.size + 2, 0, none⟩ = false
  bel : Below w.heap.size w W
  sz : W.heap.size = w.heap.size + 3
theorem bx3 (w : World) (v1 v2 v3 : Value) (t1 t2 t3 : TypeId) : Bx3 w (((w.alloc (.cells #[v1] t1)).alloc (.cells #[v2] t2)).alloc (.cells #[v3] t3)) v1 v2 v3 :=
  ⟨cell_alloc (bx2 w v1 v2 t1 t2).c1 _, cell_alloc (bx2 w v1 v2 t1 t2).c2 _, by have := cell_alloc_new ((w.alloc (.cells #[v1] t1)).alloc (.cells #[v2] t2)) v3 t3; rwa [(bx2 w v1 v2 t1 t2).sz] at this,
   by have := frozen_new ((w.alloc (.cells #[v1] t1)).alloc (.cells #[v2] t2)) v3 t3; rwa [(bx2 w v1 v2 t1 t2).sz] at this, (bx2 w v1 v2 t1 t2).bel.alloc (by simp; omega) _, by simp⟩
theorem ask_gone (h : IsS w sb y db s) (hd : IsD w db yd d) (F : Nat) (cap : Array Value) (hin : ∀ W, (callFunc F cap).run Tryz.prog W = .ok (.enter F cap) W) (hg : gone s d = true) :
    Calls Tryz.prog 47 #[pt sb, .func (.func F) #[] cap] w fun e w' => e = .returned (.int .i64 9) ∧ w' = w := by
  refine (ask_any h hd F cap hin (fun _ _ => True) (fun e => by rw [hg] at e; cases e)).mono ?_
  rintro e w' (⟨_, h1, h2⟩ | ⟨h1, _⟩)
  · exact ⟨h1, h2⟩
  · rw [hg] at h1; cases h1
theorem ask_yes (h : IsS w sb y db s) (hd : IsD w db yd d) (F : Nat) (cap : Array Value) (hin : ∀ W, (callFunc F cap).run Tryz.prog W = .ok (.enter F cap) W) (hg : gone s d = false) {Q : Int → World → Prop} (hf : Calls Tryz.prog F cap w fun e w' => ∃ r, e = .returned (.int .i64 r) ∧ Q r w') :
    Calls Tryz.prog 47 #[pt sb, .func (.func F) #[] cap] w fun e w' => ∃ r, e = .returned (.int .i64 r) ∧ Q r w' := by
  refine (ask_any h hd F cap hin Q (fun _ => hf)).mono ?_
  rintro e w' (⟨h1, _⟩ | ⟨_, h1⟩)
  · rw [hg] at h1; cases h1
  · exact h1
set_option maxHeartbeats 1000000 in
theorem Root_any (h : IsS w sb y db s) (hd : IsD w db yd d) :
    Calls Tryz.prog 40 #[pt sb] w fun e w' => e = .returned (.int .i64 (if gone s d then 0 else (s.cur.now.root : Int))) ∧ Below w.heap.size w w' := by
  obtain ⟨W, hW⟩ : ∃ W, W = (w.alloc (.cells #[pt sb] 25)).alloc (.cells #[.int .i64 0] 3) := ⟨_, rfl⟩
  have hx : Bx2 w W (pt sb) (.int .i64 0) := hW ▸ bx2 w _ _ _ _
  have hI := h.below hx.bel
  have hD := hd.below hx.bel
  have HX := Lib.hid hx
  have HW := Lib.hid hW
  have a2 := hx.c2
  have hmk := hmf
  by_cases hg : gone s d = true
  · have HA := Lib.hid (ask_gone hI hD 78 #[.pointer (some ⟨w.heap.size, 0, none⟩), .pointer (some ⟨w.heap.size + 1, 0, none⟩)] (enter65 _) hg)
    rw [hg]
    clear hx hW hI hD h hd hg
    go_enter Tryz.func40, Tryz.ntmps40
    go_wp2_with (go_at_call 47; rw [← HW.out]; refine HA.out.mono ?_; rintro e w1 ⟨rfl, rfl⟩)
    go_ret
    exact ⟨rfl, HX.out.bel⟩
  · have hg' : gone s d = false := by simpa using hg
    have HA := Lib.hid (ask_yes hI hD 78 #[.pointer (some ⟨w.heap.size, 0, none⟩), .pointer (some ⟨w.heap.size + 1, 0, none⟩)] (enter65 _) hg' (root1_any hI _ _ _ hx.c1 hx.c2 hx.f2))
    rw [hg']
    have a3 := World.cell?_setCell_same W _ (.int .i64 (s.cur.now.root : Int)) a2
    have HB := Lib.hid (hx.bel.setCell (p := ⟨w.heap.size + 1, 0, none⟩) (by simp) (.int .i64 (s.cur.now.root : Int)))
    clear hx hW hI hD h hd hg hg' a2
    go_enter Tryz.func40, Tryz.ntmps40
    go_wp2_with (go_at_call 47; rw [← HW.out]; refine HA.out.mono ?_; rintro e w1 ⟨r, rfl, rfl, rfl⟩)
    go_ret
    exact ⟨rfl, HB.out⟩
set_option maxHeartbeats 1000000 in
theorem Left_any (h : IsS w sb y db s) (hd : IsD w db yd d) (hn : s.n = d.n) (h5 : s.n ≤ 4096) (hle : cntTo s.used 4096 + 2 ≤ s.n) :
    Calls Tryz.prog 41 #[pt sb] w fun e w' => e = .returned (.int .i64 (if gone s d then 0 else (s.left : Int))) ∧ Below w.heap.size w w' := by
  obtain ⟨W, hW⟩ : ∃ W, W = (w.alloc (.cells #[pt sb] 25)).alloc (.cells #[.int .i64 0] 3) := ⟨_, rfl⟩
  have hx : Bx2 w W (pt sb) (.int .i64 0) := hW ▸ bx2 w _ _ _ _
  have hI := h.below hx.bel
  have hD := hd.below hx.bel
  have HX := Lib.hid hx
  have HW := Lib.hid hW
  have a2 := hx.c2
  have hmk := hmf
  by_cases hg : gone s d = true
  · have HA := Lib.hid (ask_gone hI hD 79 #[.pointer (some ⟨w.heap.size, 0, none⟩), .pointer (some ⟨w.heap.size + 1, 0, none⟩)] (enter66 _) hg)
    rw [hg]
    clear hx hW hI hD h hd hg hn h5 hle
    go_enter Tryz.func41, Tryz.ntmps41
    go_wp2_with (go_at_call 47; rw [← HW.out]; refine HA.out.mono ?_; rintro e w1 ⟨rfl, rfl⟩)
    go_ret
    exact ⟨rfl, HX.out.bel⟩
  · have hg' : gone s d = false := by simpa using hg
    have HA := Lib.hid (ask_yes hI hD 79 #[.pointer (some ⟨w.heap.size, 0, none⟩), .pointer (some ⟨w.heap.size + 1, 0, none⟩)] (enter66 _) hg' (left1_any hI hD hn h5 hle _ _ _ hx.c1 hx.c2 hx.f2))
    rw [hg']
    have a3 := World.cell?_setCell_same W _ (.int .i64 (s.left : Int)) a2
    have HB := Lib.hid (hx.bel.setCell (p := ⟨w.heap.size + 1, 0, none⟩) (by simp) (.int .i64 (s.left : Int))).drew
    clear hx hW hI hD h hd hg hg' a2 hn h5 hle
    go_enter Tryz.func41, Tryz.ntmps41
    go_wp2_with (go_at_call 47; rw [← HW.out]; refine HA.out.mono ?_; rintro e w1 ⟨r, rfl, rfl, rfl⟩)
    go_ret
    exact ⟨rfl, HB.out⟩
end
end Go.Proofs.YtnpebfolmdbipaaGreatDoor.Sk

namespace Go.Proofs.YtnpebfolmdbipaaGreatDoor.Sk
set_option maxRecDepth 8000
set_option linter.unusedVariables false
set_option linter.unusedSimpArgs false
open Go.RowKit Mem Go.ChangeMaps
open Dk (cod elem cod_inj elem_mk elem_inv key key_inj wf_key keyed3 MapIs Fr ptr hmf cell_alloc cell_alloc_new zero42 IsD Dsk Lay drewN_cell)
section
variable {w w' : World} {sb db : Nat} {y : SLay} {s : Sto} {yd : Dk.Lay} {d : Dk.Dsk}
theorem enter59 (args : Array Value) (W : World) : (callFunc 58 args).run Tryz.prog W = .ok (.enter 58 args) W := by kernel_rfl
theorem enter57 (args : Array Value) (W : World) : (callFunc 54 args).run Tryz.prog W = .ok (.enter 54 args) W := by kernel_rfl
theorem hasN (h : IsS w sb y db s) (r : Int) : ∀ n, Calls Tryz.prog 55 #[pt sb, .int .i64 r] (w.drewN n) fun e w' => e = .returned (.bool (s.cur.now.hasI r)) ∧ w' = w.drewN n := fun n => has_any (w.drewN n) sb 0 s.cur.now r (h.drewN n).now
theorem Ks.drewN (h : IsS w sb y db s) (n : Nat) : Ks w y (w.drewN n) y := Ks.ofBelow h (below_drewN (Below.refl _ w) n)
set_option maxHeartbeats 1000000 in
theorem setRoot1_bad (h : IsS w sb y db s) (p q : Addr) (r : Int) (hp : w.cell? p = some (.int .i64 r)) (hq : w.cell? q = some (pt sb)) (h0 : r ≠ 0) (hb : s.cur.now.hasI r = false) :
    Calls Tryz.prog 58 #[.pointer (some p), .pointer (some q)] w fun e w' => ∃ t, e = .returned (.int .i64 t) ∧ t = 1 ∧ ∃ n, w' = w.drewN n := by
  have b1 := hasN h r
  rw [hb] at b1
  have B1 := Lib.hid b1
  have h0' : (r != 0) = true := by simp [h0]
  clear h hb h0 b1
  go_enter Tryz.func58, Tryz.ntmps58
  go_wp2
  go_quiet (first | (go_at_call 55; refine Calls.quiet_of_same (B1.out _)))
  go_wp2
  go_ret
  exact ⟨_, rfl, rfl, _, rfl⟩
set_option maxHeartbeats 1000000 in
theorem setRoot1_ok (h : IsS w sb y db s) (p q : Addr) (r : Nat) (hp : w.cell? p = some (.int .i64 (r : Int))) (hq : w.cell? q = some (pt sb)) (hb : r = 0 ∨ s.cur.now.hasI r = true) (hm : y.m < 100000000) :
    Calls Tryz.prog 58 #[.pointer (some p), .pointer (some q)] w fun e w' => ∃ t, e = .returned (.int .i64 t) ∧ t = 0 ∧ ∃ y', IsS w' sb y' db (s.setRoot r) ∧ Ks w y w' y' ∧ y'.m ≤ y.m + 2 := by
  have H := Lib.hid h
  by_cases h0 : r = 0
  · subst h0
    have hp' : w.cell? p = some (.int .i64 0) := hp
    clear h hp hb
    go_enter Tryz.func58, Tryz.ntmps58
    go_wp2
    go_quiet (fail)
    go_wp2
    have v1 := (drewN_cell w nq p).trans hp'
    have v2 := (drewN_cell w nq q).trans hq
    have C := Lib.hid (csetRoot_any (H.out.drewN nq).drew 0 hm)
    have K0 := Lib.hid ((Ks.drewN H.out nq).drew)
    clear H hq hp'
    generalize w.drewN nq = V at v1 v2 C K0 ⊢
    go_still_tail 4, (by kernel_rfl)
    change wpList _ _ _ _ _ V.drew
    go_wp2_with (go_at_call 59; refine C.out.mono ?_; rintro e w1 ⟨rfl, y1, h1, k1, m1⟩; have H1 := Lib.hid h1; have K1 := Lib.hid k1; clear h1 k1)
    go_ret
    exact ⟨_, rfl, rfl, y1, H1.out, K0.out.trans K1.out, m1⟩
  · have b1 := hasN h (r : Int)
    rw [hb.resolve_left h0] at b1
    have B1 := Lib.hid b1
    have h0' : (((r : Nat) : Int) != 0) = true := by simp [h0]
    clear h hb h0 b1
    go_enter Tryz.func58, Tryz.ntmps58
    go_wp2
    go_quiet (first | (go_at_call 55; refine Calls.quiet_of_same (B1.out _)))
    go_wp2
    have v1 := (drewN_cell w nq p).trans hp
    have v2 := (drewN_cell w nq q).trans hq
    have C := Lib.hid (csetRoot_any (H.out.drewN nq).drew r hm)
    have K0 := Lib.hid ((Ks.drewN H.out nq).drew)
    clear H B1 hq hp
    generalize w.drewN nq = V at v1 v2 C K0 ⊢
    go_still_tail 4, (by kernel_rfl)
    change wpList _ _ _ _ _ V.drew
    go_wp2_with (go_at_call 59; refine C.out.mono ?_; rintro e w1 ⟨rfl, y1, h1, k1, m1⟩; have H1 := Lib.hid h1; have K1 := Lib.hid k1; clear h1 k1)
    go_ret
    exact ⟨_, rfl, rfl, y1, H1.out, K0.out.trans K1.out, m1⟩

set_option maxHeartbeats 1000000 in
theorem give1_bad (h : IsS w sb y db s) (p q : Addr) (r : Int) (hp : w.cell? p = some (.int .i64 r)) (hq : w.cell? q = some (pt sb)) (hb : s.cur.now.hasI r = false ∨ r = (s.cur.now.root : Int)) :
    Calls Tryz.prog 54 #[.pointer (some q), .pointer (some p)] w fun e w' => ∃ t, e = .returned (.int .i64 t) ∧ t = 1 ∧ ∃ n, w' = w.drewN n := by
  have b1 := hasN h r
  by_cases h0 : s.cur.now.hasI r = false
  · rw [h0] at b1
    have B1 := Lib.hid b1
    clear h hb h0 b1
    go_enter Tryz.func54, Tryz.ntmps54
    go_wp2
    go_quiet (first | (go_at_call 55; refine Calls.quiet_of_same (B1.out _)))
    go_wp2
    go_ret
    exact ⟨_, rfl, rfl, _, rfl⟩
  · have h0' : s.cur.now.hasI r = true := by simpa using h0
    rw [h0'] at b1
    have B1 := Lib.hid b1
    have hr := hb.resolve_left h0
    have c0 := h.croot
    rw [← hr] at c0
    clear h hb h0 h0' b1 hr
    go_enter Tryz.func54, Tryz.ntmps54
    go_wp2
    go_quiet (first | (go_at_call 55; refine Calls.quiet_of_same (B1.out _)))
    go_wp2
    go_ret
    exact ⟨_, rfl, rfl, _, rfl⟩
set_option maxHeartbeats 1000000 in
theorem give1_ok (h : IsS w sb y db s) (p q : Addr) (r : Nat) (hp : w.cell? p = some (.int .i64 (r : Int))) (hq : w.cell? q = some (pt sb)) (hb : s.cur.now.hasI r = true) (h0 : r ≠ s.cur.now.root) (hr : r < 4096) (hm : y.m < 100000000) :
    Calls Tryz.prog 54 #[.pointer (some q), .pointer (some p)] w fun e w' => ∃ t, e = .returned (.int .i64 t) ∧ t = 0 ∧ ∃ y', IsS w' sb y' db (s.give r) ∧ Ks w y w' y' ∧ y'.m ≤ y.m + 2 := by
  have b1 := hasN h (r : Int)
  rw [hb] at b1
  have B1 := Lib.hid b1
  have c0 := h.croot
  have H := Lib.hid h
  have h0' : (((r : Nat) : Int) == (s.cur.now.root : Int)) = false := by simp; omega
  generalize s.cur.now.root = ro at c0 h0'
  clear h hb h0 b1
  go_enter Tryz.func54, Tryz.ntmps54
  go_wp2
  go_quiet (first | (go_at_call 55; refine Calls.quiet_of_same (B1.out _)))
  go_wp2
  have v1 := (drewN_cell w nq p).trans hp
  have v2 := (drewN_cell w nq q).trans hq
  have C := Lib.hid (cgive_any (H.out.drewN nq).drew r hr hm)
  have K0 := Lib.hid ((Ks.drewN H.out nq).drew)
  clear H B1 hq hp c0
  generalize w.drewN nq = V at v1 v2 C K0 ⊢
  go_still_tail 4, (by kernel_rfl)
  change wpList _ _ _ _ _ V.drew
  go_wp2_with (go_at_call 56; refine C.out.mono ?_; rintro e w1 ⟨rfl, y1, h1, k1, m1⟩; have H1 := Lib.hid h1; have K1 := Lib.hid k1; clear h1 k1)
  go_ret
  exact ⟨_, rfl, rfl, y1, H1.out, K0.out.trans K1.out, m1⟩
/-- What SetRoot and Give answer, and do. -/
def Sto.badR (s : Sto) (r : Int) : Bool := decide (r ≠ 0) && !s.cur.now.hasI r
def Sto.badG (s : Sto) (r : Int) : Bool := !s.cur.now.hasI r || decide (r = (s.cur.now.root : Int))
def ansR (s : Sto) (d : Dsk) (r : Int) : Int := if gone s d then 9 else if s.badR r then 1 else 0
def doR (s : Sto) (d : Dsk) (r : Int) : Sto := if gone s d then s else if s.badR r then s else s.setRoot r.toNat
def ansG (s : Sto) (d : Dsk) (r : Int) : Int := if gone s d then 9 else if s.badG r then 1 else 0
def doG (s : Sto) (d : Dsk) (r : Int) : Sto := if gone s d then s else if s.badG r then s else s.give r.toNat
theorem hasI_lt {t : Sta} {r : Int} (h : t.hasI r = true) : 0 ≤ r ∧ r < 4096 ∧ t.has r.toNat = true := by
  simp [Sta.hasI] at h; exact ⟨h.1.1, h.1.2, h.2⟩
set_option maxHeartbeats 1000000 in
theorem SetRoot_any (h : IsS w sb y db s) (hd : IsD w db yd d) (r : Int) (hm : y.m < 100000000) :
    Calls Tryz.prog 17 #[pt sb, .int .i64 r] w fun e w' => e = .returned (.int .i64 (ansR s d r)) ∧ ∃ y', IsS w' sb y' db (doR s d r) ∧ Ks w y w' y' ∧ y'.m ≤ y.m + 2 := by
  obtain ⟨W, hW⟩ : ∃ W, W = (w.alloc (.cells #[pt sb] 25)).alloc (.cells #[.int .i64 r] 3) := ⟨_, rfl⟩
  have hx : Bx2 w W (pt sb) (.int .i64 r) := hW ▸ bx2 w _ _ _ _
  have hI := h.below hx.bel
  have hD := hd.below hx.bel
  have HW := Lib.hid hW
  have K0 := Lib.hid (Ks.ofBelow h hx.bel)
  have HI := Lib.hid hI
  have hmk := hmf
  have key : Calls Tryz.prog 47 #[pt sb, .func (.func 58) #[] #[.pointer (some ⟨w.heap.size + 1, 0, none⟩), .pointer (some ⟨w.heap.size, 0, none⟩)]] W fun e w' => e = .returned (.int .i64 (ansR s d r)) ∧ ∃ y', IsS w' sb y' db (doR s d r) ∧ Ks W y w' y' ∧ y'.m ≤ y.m + 2 := by
    unfold ansR doR
    by_cases hg : gone s d = true
    · rw [if_pos hg, if_pos hg]
      refine (ask_gone hI hD 58 _ (enter59 _) hg).mono ?_
      rintro e w' ⟨rfl, rfl⟩
      exact ⟨rfl, y, hI, Ks.refl _ _, by omega⟩
    · have hg' : gone s d = false := by simpa using hg
      rw [if_neg hg, if_neg hg]
      by_cases hb : s.badR r = true
      · rw [if_pos hb, if_pos hb]
        simp [Sto.badR] at hb
        refine (ask_yes hI hD 58 _ (enter59 _) hg' (setRoot1_bad hI _ _ r hx.c2 hx.c1 hb.1 hb.2)).mono ?_
        rintro e w' ⟨t, rfl, rfl, n, rfl⟩
        exact ⟨rfl, y, hI.drewN n, Ks.drewN hI n, by omega⟩
      · rw [if_neg hb, if_neg hb]
        have hb2 : r = 0 ∨ s.cur.now.hasI r = true := by
          simp [Sto.badR] at hb
          by_cases e : r = 0
          · exact .inl e
          · exact .inr (hb e)
        have hr : ∃ k : Nat, r = (k : Int) := by
          rcases hb2 with rfl | h2
          · exact ⟨0, rfl⟩
          · exact Int.eq_ofNat_of_zero_le (hasI_lt h2).1
        obtain ⟨k, rfl⟩ := hr
        rw [Int.toNat_natCast]
        refine (ask_yes hI hD 58 _ (enter59 _) hg' (setRoot1_ok hI _ _ k hx.c2 hx.c1 (hb2.imp (by omega) id) hm)).mono ?_
        rintro e w' ⟨t, rfl, rfl, y', h1, h2, h3⟩
        exact ⟨rfl, y', h1, h2, h3⟩
  have KEY := Lib.hid key
  clear hx hW hI hD h hd key
  go_enter Tryz.func17, Tryz.ntmps17
  go_wp2_with (go_at_call 47; rw [← HW.out]; refine KEY.out.mono ?_; rintro e w1 ⟨rfl, y1, h1, k1, m1⟩; have H1 := Lib.hid h1; have K1 := Lib.hid k1; clear h1 k1)
  go_ret
  exact ⟨rfl, y1, H1.out, K0.out.trans K1.out, m1⟩
set_option maxHeartbeats 1000000 in
theorem Give_any (h : IsS w sb y db s) (hd : IsD w db yd d) (r : Int) (hm : y.m < 100000000) :
    Calls Tryz.prog 15 #[pt sb, .int .i64 r] w fun e w' => e = .returned (.int .i64 (ansG s d r)) ∧ ∃ y', IsS w' sb y' db (doG s d r) ∧ Ks w y w' y' ∧ y'.m ≤ y.m + 2 := by
  obtain ⟨W, hW⟩ : ∃ W, W = (w.alloc (.cells #[pt sb] 25)).alloc (.cells #[.int .i64 r] 3) := ⟨_, rfl⟩
  have hx : Bx2 w W (pt sb) (.int .i64 r) := hW ▸ bx2 w _ _ _ _
  have hI := h.below hx.bel
  have hD := hd.below hx.bel
  have HW := Lib.hid hW
  have K0 := Lib.hid (Ks.ofBelow h hx.bel)
  have hmk := hmf
  have key : Calls Tryz.prog 47 #[pt sb, .func (.func 54) #[] #[.pointer (some ⟨w.heap.size, 0, none⟩), .pointer (some ⟨w.heap.size + 1, 0, none⟩)]] W fun e w' => e = .returned (.int .i64 (ansG s d r)) ∧ ∃ y', IsS w' sb y' db (doG s d r) ∧ Ks W y w' y' ∧ y'.m ≤ y.m + 2 := by
    unfold ansG doG
    by_cases hg : gone s d = true
    · rw [if_pos hg, if_pos hg]
      refine (ask_gone hI hD 54 _ (enter57 _) hg).mono ?_
      rintro e w' ⟨rfl, rfl⟩
      exact ⟨rfl, y, hI, Ks.refl _ _, by omega⟩
    · have hg' : gone s d = false := by simpa using hg
      rw [if_neg hg, if_neg hg]
      by_cases hb : s.badG r = true
      · rw [if_pos hb, if_pos hb]
        simp [Sto.badG] at hb
        refine (ask_yes hI hD 54 _ (enter57 _) hg' (give1_bad hI _ _ r hx.c2 hx.c1 hb)).mono ?_
        rintro e w' ⟨t, rfl, rfl, n, rfl⟩
        exact ⟨rfl, y, hI.drewN n, Ks.drewN hI n, by omega⟩
      · rw [if_neg hb, if_neg hb]
        simp [Sto.badG] at hb
        obtain ⟨k, rfl⟩ := Int.eq_ofNat_of_zero_le (hasI_lt hb.1).1
        have hk := hasI_lt hb.1
        rw [Int.toNat_natCast]
        refine (ask_yes hI hD 54 _ (enter57 _) hg' (give1_ok hI _ _ k hx.c2 hx.c1 hb.1 (by omega) (by omega) hm)).mono ?_
        rintro e w' ⟨t, rfl, rfl, y', h1, h2, h3⟩
        exact ⟨rfl, y', h1, h2, h3⟩
  have KEY := Lib.hid key
  clear hx hW hI hD h hd key
  go_enter Tryz.func15, Tryz.ntmps15
  go_wp2_with (go_at_call 47; rw [← HW.out]; refine KEY.out.mono ?_; rintro e w1 ⟨rfl, y1, h1, k1, m1⟩; have H1 := Lib.hid h1; have K1 := Lib.hid k1; clear h1 k1)
  go_ret
  exact ⟨rfl, y1, H1.out, K0.out.trans K1.out, m1⟩
end
end Go.Proofs.YtnpebfolmdbipaaGreatDoor.Sk

namespace Go.Proofs.YtnpebfolmdbipaaGreatDoor.Sk
set_option maxRecDepth 8000
set_option linter.unusedVariables false
set_option linter.unusedSimpArgs false
open Go.RowKit Mem Go.ChangeMaps
open Dk (cod elem cod_inj elem_mk elem_inv key key_inj wf_key keyed3 MapIs Fr ptr hmf cell_alloc cell_alloc_new zero42 IsD Dsk Lay drewN_cell)
/-- The least free page below k, or 0. -/
def Sto.spareTo (s : Sto) : Nat → Nat
  | 0 => 0
  | k + 1 => if s.spareTo k = 0 ∧ 2 ≤ k ∧ s.free k = true then k else s.spareTo k
def Sto.spare (s : Sto) : Nat := s.spareTo s.n
theorem spareTo_is (s : Sto) (k : Nat) : (s.spareTo k = 0 ∧ ∀ q, 2 ≤ q → q < k → s.free q = false) ∨ (2 ≤ s.spareTo k ∧ s.spareTo k < k ∧ s.free (s.spareTo k) = true ∧ ∀ q, 2 ≤ q → q < s.spareTo k → s.free q = false) := by
  induction k with
  | zero => exact .inl ⟨rfl, fun q h1 h2 => by omega⟩
  | succ k ih =>
    unfold Sto.spareTo
    rcases ih with ⟨h1, h2⟩ | ⟨h1, h2, h3, h4⟩
    · by_cases hk : 2 ≤ k ∧ s.free k = true
      · rw [if_pos ⟨h1, hk⟩]
        exact .inr ⟨hk.1, by omega, hk.2, h2⟩
      · rw [if_neg (fun e => hk e.2)]
        refine .inl ⟨h1, fun q q1 q2 => ?_⟩
        by_cases e : q = k
        · subst e
          rcases hf : s.free q with _ | _
          · rfl
          · exact absurd ⟨q1, hf⟩ hk
        · exact h2 q q1 (by omega)
    · rw [if_neg (fun e => by omega)]
      exact .inr ⟨h1, by omega, h3, h4⟩
theorem spare_is (s : Sto) : IsSpare s s.spare := spareTo_is s s.n
section
variable {w w' : World} {sb db : Nat} {y : SLay} {s : Sto} {yd : Dk.Lay} {d : Dk.Dsk}
theorem spare_one (h : IsS w sb y db s) (hn : s.n ≤ 4096) : Calls Tryz.prog 49 #[pt sb, .int .i64 (s.n : Int)] w fun e w' => e = .returned (.int .i64 (s.spare : Int)) ∧ w' = w := by
  refine (spare_any h hn).mono ?_
  rintro e w' ⟨⟨p, hp, rfl⟩, rfl⟩
  exact ⟨by rw [hp.one (spare_is s)], rfl⟩
theorem enter47 (args : Array Value) (W : World) : (callFunc 48 args).run Tryz.prog W = .ok (.enter 48 args) W := by kernel_rfl
theorem IsS.poke (h : IsS w sb y db s) {q : Addr} (hq : ¬ y.foot q.block) (v : Value) : IsS (w.setCell q v) sb y db s :=
  h.keep (by simp [World.setCell]) fun k hk => Below.heap_setCell _ _ _ _ (fun e => hq (e ▸ hk))
theorem Ks.poke {a : World} {x : SLay} (h : Ks a x w y) {q : Addr} (hq : a.heap.size ≤ q.block) (hx : ∀ k, x.foot k → k < a.heap.size) (v : Value) : Ks a x (w.setCell q v) y :=
  ⟨⟨h.kf.fr.trans (Fr.setCell (F := fun k => k = q.block) w q (fun _ => rfl) v) fun b hb e => by omega, h.kf.foot⟩,
   fun k hk => ⟨(Below.heap_setCell _ _ _ _ (fun e => by have := hx k (by simp [SLay.foot, hk]); omega)).trans (h.cs k hk).1, (h.cs k hk).2⟩⟩
theorem take1_long (h : IsS w sb y db s) (p q r : Addr) (A : Option Addr) (n c : Nat) (hp : w.cell? p = some (.slice A n c)) (hn : 4011 < n) :
    Calls Tryz.prog 48 #[.pointer (some p), .pointer (some q), .pointer (some r)] w fun e w' => ∃ t, e = .returned (.int .i64 t) ∧ t = 2 ∧ w' = w := by
  have hn' : (4011 : Int) < (n : Int) := by omega
  clear h
  go_enter Tryz.func48, Tryz.ntmps48
  go_wp2
  go_ret
  exact ⟨_, rfl, rfl, rfl⟩
set_option maxHeartbeats 1000000 in
theorem take1_full {w0 : World} (h : IsS w sb y db s) (hd : IsD w db yd d) (hnd : s.n = d.n) (h5 : s.n ≤ 4096) (K : Ks w0 y w y) (hx : ∀ k, y.foot k → k < w0.heap.size) (p q r : Addr) (A : Option Addr) (n c : Nat) (u : Value) (hp : w.cell? p = some (.slice A n c)) (hq : w.cell? q = some (pt sb)) (hr : w.cell? r = some u) (fr : w.frozen? r = false) (hr0 : w0.heap.size ≤ r.block) (hn : n ≤ 4011) (hs : s.spare = 0) :
    Calls Tryz.prog 48 #[.pointer (some p), .pointer (some q), .pointer (some r)] w fun e w' => ∃ t, e = .returned (.int .i64 t) ∧ t = 3 ∧ IsS w' sb y db s ∧ Ks w0 y w' y ∧ w'.cell? r = some (.int .i64 0) := by
  have hn' : ¬ (4011 : Int) < (n : Int) := by omega
  have hc := h.cdisk
  have b1 := Dk.size_any (w := w.drew) hd.drew
  rw [← hnd] at b1
  have b2 := spare_one h.drew h5
  rw [hs] at b2
  have hI := Lib.hid (h.poke (q := r) (fun e => by have := hx _ e; omega) (.int .i64 0)).drew
  have hK := Lib.hid (K.poke hr0 hx (.int .i64 0)).drew
  have c9 : (w.setCell r (.int .i64 0)).cell? r = some (.int .i64 0) := World.cell?_setCell_same _ _ _ hr
  clear h hd K hx hnd hs
  go_enter Tryz.func48, Tryz.ntmps48
  go_wp2
  go_still_tail 9, (by kernel_rfl)
  still_call b1
  repeat still_step
  still_call b2
  repeat still_step
  refine wpStill_nil ?_
  change wpList _ _ _ _ _ w.drew
  go_wp2
  go_ret
  exact ⟨_, rfl, rfl, hI.out, hK.out, c9⟩
/-- Bytes that a call has just made are taken in. -/
theorem IsS.adoptV {w0 : World} (h : IsS w sb y db s) (K : Ks w0 y w y) (hs : w0.heap.size ≤ w.heap.size) (hb : Below w.heap.size w w') {v : Value} {l : List UInt8} (ho : Mem.Own 5 w' w.heap.size v l) : ∃ y', IsS w' sb y' db s ∧ Ks w0 y w' y' ∧ SlAt w' y'.role v l ∧ y'.m = y.m ∧ ∀ k, k < w.heap.size → y'.foot k → y.foot k := by
  have hI := h.below hb
  have hK := K.trans (Ks.ofBelow h hb)
  rcases hk : v.ownBlock with _ | k
  · exact ⟨y, hI, hK, ⟨Own.mono ho (Nat.zero_le _), fun k e => by rw [hk] at e; cases e⟩, rfl, fun _ _ e => e⟩
  · have hl := World.ownsRow.lt ho k hk
    have hn : y.role k = none := h.not_foot hl.1
    exact ⟨y.adopt k, hI.adopt hl.2 hn, hK.adopt y (by omega) hn, ⟨Own.mono ho (Nat.zero_le _), fun j e => by rw [hk] at e; injection e with e; subst e; exact adopt_const _ _⟩, rfl, fun j hj e => ((adopt_foot y k j).1 e).elim id (fun e2 => by omega)⟩
theorem Ks.cell {a : World} {x : SLay} (h : Ks a x w y) {q : Addr} (hq : ¬ x.foot q.block) {v : Value} (hv : a.cell? q = some v) : w.cell? q = some v :=
  (World.cell?_of_block (w := a) (h.kf.fr.block _ (Dk.lt_of_cell hv) hq)).trans hv
set_option maxHeartbeats 1000000 in
theorem take1_ok {w0 : World} (h : IsS w sb y db s) (hd : IsD w db yd d) (hnd : s.n = d.n) (h5 : s.n ≤ 4096) (K : Ks w0 y w y) (hx : ∀ k, y.foot k → k < w0.heap.size) (p q r : Addr) (A : Option Addr) (n c : Nat) (l : List UInt8) (u : Value) (hp : w.cell? p = some (.slice A n c)) (hq : w.cell? q = some (pt sb)) (hr : w.cell? r = some u) (fr : w.frozen? r = false) (hr0 : w0.heap.size ≤ r.block) (hp0 : w0.heap.size ≤ p.block) (hq0 : w0.heap.size ≤ q.block) (hpr : p ≠ r) (hqr : q ≠ r) (hn : n ≤ 4011) (hs : s.spare ≠ 0)
    (hrd : Rd w w0.heap.size A c l) (hl : l.length = n) (hm : y.m < 100000000) :
    Calls Tryz.prog 48 #[.pointer (some p), .pointer (some q), .pointer (some r)] w fun e w' => ∃ t, e = .returned (.int .i64 t) ∧ t = 0 ∧ ∃ y', IsS w' sb y' db (s.take s.spare l) ∧ Ks w0 y w' y' ∧ y'.m ≤ y.m + 2 ∧ w'.cell? r = some (.int .i64 (s.spare : Int)) := by
  have hn' : ¬ (4011 : Int) < (n : Int) := by omega
  have hc := h.cdisk
  have b1 := Dk.size_any (w := w.drew) hd.drew
  rw [← hnd] at b1
  have b2 := spare_one h.drew h5
  have hws : w0.heap.size ≤ w.heap.size := K.kf.fr.size
  have hlt : s.spare < 4096 := by
    rcases spare_is s with ⟨h1, _⟩ | ⟨_, h2, _⟩
    · exact absurd h1 hs
    · omega
  have hs' : ((s.spare : Int) == 0) = false := by simp; omega
  have hI := Lib.hid (h.poke (q := r) (fun e => by have := hx _ e; omega) (.int .i64 (s.spare : Int))).drew
  have hK := Lib.hid (K.poke hr0 hx (.int .i64 (s.spare : Int))).drew
  have c9 : (w.setCell r (.int .i64 (s.spare : Int))).drew.cell? r = some (.int .i64 (s.spare : Int)) := World.cell?_setCell_same _ _ _ hr
  have c8 : (w.setCell r (.int .i64 (s.spare : Int))).drew.cell? p = some (.slice A n c) := (World.cell?_setCell_other _ _ _ _ (fun e => hpr e.symm)).trans hp
  have c7 : (w.setCell r (.int .i64 (s.spare : Int))).drew.cell? q = some (pt sb) := (World.cell?_setCell_other _ _ _ _ (fun e => hqr e.symm)).trans hq
  have hR := Lib.hid (hrd.keep (w' := (w.setCell r (.int .i64 (s.spare : Int))).drew) fun a ha => World.cell?_setCell_other _ _ _ _ (fun e => by rw [e] at hr0; omega))
  obtain ⟨W, hW⟩ : ∃ W, W = (w.setCell r (.int .i64 (s.spare : Int))).drew := ⟨_, rfl⟩
  rw [← hW] at hI hK c9 c8 c7 hR
  have HW := Lib.hid hW
  have HX := Lib.hid hx
  generalize s.spare = sp at *
  clear h hd K hx hnd hs hrd hW
  go_enter Tryz.func48, Tryz.ntmps48
  go_wp2
  go_still_tail 9, (by kernel_rfl)
  still_call b1
  repeat still_step
  still_call b2
  repeat still_step
  refine wpStill_nil ?_
  change wpList _ _ _ _ _ w.drew
  go_wp2
  rw [← HW.out]
  clear b1 b2 hp hq hr fr hc
  go_wp2
  have e1 : W.drew.cell? p = some (.slice A n c) := c8
  have e2 : W.drew.cell? q = some (pt sb) := c7
  have e3 : W.drew.cell? r = some (.int .i64 (sp : Int)) := c9
  have HE := Lib.hid (And.intro e1 (And.intro e2 e3))
  have hws2 : w0.heap.size ≤ W.drew.heap.size := by rw [HW.out]; simpa [World.setCell] using hws
  have hI2 := Lib.hid hI.out.drew
  have hK2 := Lib.hid (Ks.drew hK.out)
  have HF := Lib.hid (show ∀ k, w0.heap.size ≤ k → ¬ y.foot k from fun k hk e => by have := HX.out k e; omega)
  have hR2 := Lib.hid (show Rd W.drew W.drew.heap.size A c l from Rd.more (hR.out.keep fun a _ => rfl) hws2)
  clear e1 e2 e3 c7 c8 c9
  go_region_held3 (fun w' => w'.cell? p = some (.slice A n c) ∧ w'.cell? q = some (pt sb) ∧ w'.cell? r = some (.int .i64 (sp : Int)))
    (first | exact HE.out | exact P4.out | exact P5.out)
    (first
      | (go_at_call 51; refine (ctake_any H4.out sp hlt v4 l S4.out (by omega)).mono ?_; rintro e w5 ⟨rfl, y5, h5', k5, m5⟩; have H5 := Lib.hid h5'; have K5 := Lib.hid (K4.out.trans k5); have P5 := Lib.hid (show w5.cell? p = some (.slice A n c) ∧ w5.cell? q = some (pt sb) ∧ w5.cell? r = some (.int .i64 (sp : Int)) from ⟨k5.cell (F4.out p.block hp0 (Dk.lt_of_cell HE.out.1)) P4.out.1, k5.cell (F4.out q.block hq0 (Dk.lt_of_cell HE.out.2.1)) P4.out.2.1, k5.cell (F4.out r.block hr0 (Dk.lt_of_cell HE.out.2.2)) P4.out.2.2⟩); clear h5' k5)
      | (go_at_call 52; refine (clone_any A c n l _ hR2.out hl (by omega)).mono ?_; rintro e w4 ⟨v4, rfl, ho, hb⟩; obtain ⟨y4, h4, k4, s4, m4, f4⟩ := hI2.out.adoptV hK2.out hws2 hb ho; have H4 := Lib.hid h4; have K4 := Lib.hid k4; have S4 := Lib.hid s4; have P4 := Lib.hid (show w4.cell? p = some (.slice A n c) ∧ w4.cell? q = some (pt sb) ∧ w4.cell? r = some (.int .i64 (sp : Int)) from ⟨(hb.cell (Dk.lt_of_cell HE.out.1)).trans HE.out.1, (hb.cell (Dk.lt_of_cell HE.out.2.1)).trans HE.out.2.1, (hb.cell (Dk.lt_of_cell HE.out.2.2)).trans HE.out.2.2⟩); have F4 := Lib.hid (show ∀ k, w0.heap.size ≤ k → k < W.drew.heap.size → ¬ y4.foot k from fun k h1 h2 e => HF.out k h1 (f4 k h2 e)); clear h4 k4 s4 ho hb f4))
  go_wp2
  go_ret
  exact ⟨_, rfl, rfl, y5, H5.out, K5.out, by omega, P5.out.2.2⟩
/-- What Take answers, and does. -/
def ansT (s : Sto) (d : Dsk) (l : List UInt8) : Int := if gone s d then 9 else if 4011 < l.length then 2 else if s.spare = 0 then 3 else 0
def doT (s : Sto) (d : Dsk) (l : List UInt8) : Sto := if ansT s d l = 0 then s.take s.spare l else s
def numT (s : Sto) (d : Dsk) (l : List UInt8) : Nat := if ansT s d l = 0 then s.spare else 0
set_option maxHeartbeats 1000000 in
theorem Take_any (h : IsS w sb y db s) (hd : IsD w db yd d) (hnd : s.n = d.n) (h5 : s.n ≤ 4096) (A : Option Addr) (c n : Nat) (l : List UInt8) (hr : Rd w w.heap.size A c l) (hl : l.length = n) (hm : y.m < 100000000) :
    Calls Tryz.prog 12 #[pt sb, .slice A n c] w fun e w' => e = .returned (.tuple #[.int .i64 (numT s d l : Int), .int .i64 (ansT s d l)]) ∧ ∃ y', IsS w' sb y' db (doT s d l) ∧ Ks w y w' y' ∧ y'.m ≤ y.m + 2 := by
  obtain ⟨W, hW⟩ : ∃ W, W = ((w.alloc (.cells #[pt sb] 25)).alloc (.cells #[.slice A n c] 36)).alloc (.cells #[.int .i64 0] 3) := ⟨_, rfl⟩
  have hx : Bx3 w W (pt sb) (.slice A n c) (.int .i64 0) := hW ▸ bx3 w _ _ _ _ _ _
  have hI := h.below hx.bel
  have hD := hd.below hx.bel
  have hR := hr.below hx.bel
  have HW := Lib.hid hW
  have K0 := Ks.ofBelow h hx.bel
  have hF : ∀ k, y.foot k → k < w.heap.size := h.foot
  have hmk := hmf
  have key : Calls Tryz.prog 47 #[pt sb, .func (.func 48) #[] #[.pointer (some ⟨w.heap.size + 1, 0, none⟩), .pointer (some ⟨w.heap.size, 0, none⟩), .pointer (some ⟨w.heap.size + 2, 0, none⟩)]] W fun e w' => e = .returned (.int .i64 (ansT s d l)) ∧ w'.cell? ⟨w.heap.size + 2, 0, none⟩ = some (.int .i64 (numT s d l : Int)) ∧ ∃ y', IsS w' sb y' db (doT s d l) ∧ Ks w y w' y' ∧ y'.m ≤ y.m + 2 := by
    unfold doT numT
    by_cases hg : gone s d = true
    · have e0 : ansT s d l = 9 := if_pos hg
      rw [e0, if_neg (by omega), if_neg (by omega)]
      refine (ask_gone hI hD 48 _ (enter47 _) hg).mono ?_
      rintro e w' ⟨rfl, rfl⟩
      exact ⟨rfl, hx.c3, y, hI, K0, by omega⟩
    · have hg' : gone s d = false := by simpa using hg
      by_cases hlong : 4011 < l.length
      · have e0 : ansT s d l = 2 := by unfold ansT; rw [if_neg hg, if_pos hlong]
        rw [e0, if_neg (by omega), if_neg (by omega)]
        refine (ask_yes hI hD 48 _ (enter47 _) hg' (take1_long hI _ _ _ A n c hx.c2 (by omega))).mono ?_
        rintro e w' ⟨t, rfl, rfl, rfl⟩
        exact ⟨rfl, hx.c3, y, hI, K0, by omega⟩
      · by_cases hs : s.spare = 0
        · have e0 : ansT s d l = 3 := by unfold ansT; rw [if_neg hg, if_neg hlong, if_pos hs]
          rw [e0, if_neg (by omega), if_neg (by omega)]
          refine (ask_yes hI hD 48 _ (enter47 _) hg' (take1_full hI hD hnd h5 K0 hF _ _ _ A n c _ hx.c2 hx.c1 hx.c3 hx.f3 (by simp) (by omega) hs)).mono ?_
          rintro e w' ⟨t, rfl, rfl, h1, h2, h3⟩
          exact ⟨rfl, h3, y, h1, h2, by omega⟩
        · have e0 : ansT s d l = 0 := by unfold ansT; rw [if_neg hg, if_neg hlong, if_neg hs]
          rw [e0, if_pos rfl, if_pos rfl]
          refine (ask_yes hI hD 48 _ (enter47 _) hg' (take1_ok hI hD hnd h5 K0 hF _ _ _ A n c l _ hx.c2 hx.c1 hx.c3 hx.f3 (by simp) (by simp) (Nat.le_refl _) (by simp) (by simp) (by omega) hs hR hl hm)).mono ?_
          rintro e w' ⟨t, rfl, rfl, y', h1, h2, h3, h4⟩
          exact ⟨rfl, h4, y', h1, h2, h3⟩
  have KEY := Lib.hid key
  clear hx hW hI hD h hd key K0 hF hR hr
  go_enter Tryz.func12, Tryz.ntmps12
  go_wp2_with (go_at_call 47; rw [← HW.out]; refine KEY.out.mono ?_; rintro e w1 ⟨rfl, c1, y1, h1, k1, m1⟩; have H1 := Lib.hid h1; have K1 := Lib.hid k1; clear h1 k1)
  go_ret2
  exact ⟨rfl, y1, H1.out, K1.out, m1⟩
end
end Go.Proofs.YtnpebfolmdbipaaGreatDoor.Sk

namespace Go.Proofs.YtnpebfolmdbipaaGreatDoor.Sk
set_option maxRecDepth 8000
set_option linter.unusedVariables false
set_option linter.unusedSimpArgs false
open Go.RowKit Mem Go.ChangeMaps
open Dk (cod elem cod_inj elem_mk elem_inv key key_inj wf_key keyed3 MapIs Fr ptr hmf cell_alloc cell_alloc_new zero42 IsD Dsk Lay drewN_cell)
open Fm (gets get_yes get_no tab_low)
section
variable {w w' : World} {sb db : Nat} {y : SLay} {s : Sto} {yd : Dk.Lay} {d : Dk.Dsk}
theorem page_len (hd : IsD w db yd d) (p : Nat) (hp : p < d.n) : (d.page p).length = 4096 := by
  unfold Dk.Dsk.page
  rcases hw : d.wait p with _ | l
  · exact hd.lastLen p hp
  · exact hd.waitLen p l hp hw
/-- What page p, which is taken, holds; none: it is not whole. -/
def rdOf (s : Sto) (d : Dsk) (p : Nat) : Option (List UInt8) := match s.cur.fresh p with
  | some l => some l
  | none => if Frm.whole (d.page p) p 2 then some (Frm.held (d.page p)) else none
set_option maxHeartbeats 1000000 in
theorem held_any (h : IsS w sb y db s) (hd : IsD w db yd d) (hT : Tab w) (p : Nat) (hp : p < d.n) (hp2 : p < 4096) (hg : d.dead = false) (hlen : ∀ l, s.cur.fresh p = some l → l.length ≤ 4011) :
    Calls Tryz.prog 77 #[pt sb, .int .i64 (p : Int)] w fun e w' => ∃ v r, e = .returned (.tuple #[v, .int .i64 r]) ∧ (∀ l, rdOf s d p = some l → r = 0 ∧ Mem.Own 5 w' w.heap.size v l) ∧ (rdOf s d p = none → r = 10 ∧ v = .slice none 0 0) ∧ Below w.heap.size w w' := by
  have hc := h.cfresh
  have hc2 := h.cdisk
  have hlk := h.map.is.look_ok Tryz.underlying83 (zero42 _) p (by omega)
  have hfo := h.freshOk p hp2
  unfold rdOf
  rcases hf : s.cur.fresh p with _ | l
  · rw [hf] at hfo
    rcases hV : y.V p with _ | v
    · rw [hV] at hlk
      simp only [Option.getD_none, Option.isSome_none] at hlk
      have RD := Lib.hid (Dk.read_ok hd p hg hp)
      have hpl := page_len hd p hp
      have HT := Lib.hid hT
      clear h hd hfo hf hV hT hlen
      by_cases hwh : Frm.whole (d.page p) p 2
      · simp only [if_pos hwh]
        have HG := Lib.hid (show gets (d.page p) (p : Int) 2 from ⟨by omega, by rw [Int.toNat_natCast]; exact hwh⟩)
        have HP := Lib.hid hpl
        clear hwh hpl
        go_enter Tryz.func77, Tryz.ntmps77
        go_wp2_with (first
          | (go_at_call 38; refine (get_yes T1.out R1.out HP.out (by omega) HG.out _ rfl _ rfl).mono ?_; rintro e w2 ⟨v2, rfl, ho2, hb2⟩; have O2 := Lib.hid ho2; have B2 := Lib.hid hb2; clear ho2 hb2)
          | (go_at_call 37; refine RD.out.mono ?_; rintro e w1 ⟨v1, rfl, ho1, hb1⟩; obtain ⟨A1, c1, rfl, hr1, hlt1, hs1⟩ := ho1.form; rw [HP.out]; have R1 := Lib.hid hr1; have B1 := Lib.hid hb1; have T1 := Lib.hid (tab_low HT.out hb1); clear ho1 hr1 hlt1 hs1 hb1))
        go_ret2
        exact ⟨_, _, rfl, fun l hl => ⟨rfl, by injection hl with hl; subst hl; exact Own.mono O2.out B1.out.size⟩, fun e => by (cases e), B1.out.trans (B2.out.mono B1.out.size)⟩
      · simp only [if_neg hwh]
        have HG := Lib.hid (show ¬ gets (d.page p) (p : Int) 2 from fun e => hwh (by have := e.2; rwa [Int.toNat_natCast] at this))
        have HP := Lib.hid hpl
        clear hwh hpl
        go_enter Tryz.func77, Tryz.ntmps77
        go_wp2_with (first
          | (go_at_call 38; refine (get_no T1.out R1.out HP.out (by omega) HG.out).mono ?_; rintro e w2 ⟨rfl, hb2⟩; have B2 := Lib.hid hb2; clear hb2)
          | (go_at_call 37; refine RD.out.mono ?_; rintro e w1 ⟨v1, rfl, ho1, hb1⟩; obtain ⟨A1, c1, rfl, hr1, hlt1, hs1⟩ := ho1.form; rw [HP.out]; have R1 := Lib.hid hr1; have B1 := Lib.hid hb1; have T1 := Lib.hid (tab_low HT.out hb1); clear ho1 hr1 hlt1 hs1 hb1))
        go_ret2
        exact ⟨_, _, rfl, fun l hl => by (cases hl), fun _ => ⟨rfl, rfl⟩, B1.out.trans (B2.out.mono B1.out.size)⟩
    · rw [hV] at hfo; exact hfo.elim
  · rw [hf] at hfo
    rcases hV : y.V p with _ | v
    · rw [hV] at hfo; exact hfo.elim
    · rw [hV] at hfo hlk
      simp only [Option.getD_some, Option.isSome_some] at hlk
      obtain ⟨A1, c1, rfl, hr1, _, _⟩ := hfo.1.form
      have hll : l.length ≤ 140737488355328 ∨ True := .inr trivial
      have R1 := Lib.hid hr1
      have HLL : l.length ≤ 140737488355328 := by
        have := hlen l hf
        omega
      have HLL := Lib.hid HLL
      clear h hd hfo hf hV hT hr1 hll hlen
      go_enter Tryz.func77, Tryz.ntmps77
      go_wp2_with (go_at_call 52; refine (clone_any A1 c1 _ l _ R1.out rfl HLL.out).mono ?_; rintro e w2 ⟨v2, rfl, ho2, hb2⟩; have O2 := Lib.hid ho2; have B2 := Lib.hid hb2; clear ho2 hb2)
      go_ret2
      exact ⟨_, _, rfl, fun l' hl => ⟨rfl, by injection hl with hl; subst hl; exact O2.out⟩, fun e => by (cases e), B2.out⟩

theorem held_slice (h : IsS w sb y db s) (hd : IsD w db yd d) (hT : Tab w) (p : Nat) (hp : p < d.n) (hp2 : p < 4096) (hg : d.dead = false) (hlen : ∀ l, s.cur.fresh p = some l → l.length ≤ 4011) :
    Calls Tryz.prog 77 #[pt sb, .int .i64 (p : Int)] w fun e w' => ∃ A n c r, e = .returned (.tuple #[.slice A n c, .int .i64 r]) ∧ (∀ l, rdOf s d p = some l → r = 0 ∧ Mem.Own 5 w' w.heap.size (.slice A n c) l) ∧ (rdOf s d p = none → r = 10 ∧ Value.slice A n c = .slice none 0 0) ∧ Below w.heap.size w w' := by
  refine (held_any h hd hT p hp hp2 hg hlen).mono ?_
  rintro e w' ⟨v, r, rfl, h1, h2, h3⟩
  rcases hr : rdOf s d p with _ | l
  · obtain ⟨rfl, rfl⟩ := h2 hr
    exact ⟨_, _, _, _, rfl, fun l hl => by (cases hl), fun _ => ⟨rfl, rfl⟩, h3⟩
  · obtain ⟨rfl, ho⟩ := h1 l hr
    obtain ⟨A, c, rfl, _⟩ := ho.form
    exact ⟨_, _, _, _, rfl, fun l' hl => by (injection hl with hl; subst hl; exact ⟨rfl, ho⟩), fun e => by (cases e), h3⟩
theorem enter54 (args : Array Value) (W : World) : (callFunc 76 args).run Tryz.prog W = .ok (.enter 76 args) W := by kernel_rfl
set_option maxHeartbeats 1000000 in
theorem read1_bad (h : IsS w sb y db s) (p q r : Addr) (i : Int) (hp : w.cell? p = some (.int .i64 i)) (hq : w.cell? q = some (pt sb)) (hb : s.cur.now.hasI i = false) :
    Calls Tryz.prog 76 #[.pointer (some q), .pointer (some p), .pointer (some r)] w fun e w' => ∃ t, e = .returned (.int .i64 t) ∧ t = 1 ∧ ∃ n, w' = w.drewN n := by
  have b1 := hasN h i
  rw [hb] at b1
  have B1 := Lib.hid b1
  clear h hb b1
  go_enter Tryz.func76, Tryz.ntmps76
  go_wp2
  go_quiet (first | (go_at_call 55; refine Calls.quiet_of_same (B1.out _)))
  go_wp2
  go_ret
  exact ⟨_, rfl, rfl, _, rfl⟩
set_option maxHeartbeats 1000000 in
theorem read1_ok {w0 : World} (h : IsS w sb y db s) (hd : IsD w db yd d) (hT : Tab w) (hB : Below w0.heap.size w0 w) (p q r : Addr) (i : Nat) (u : Value) (hp : w.cell? p = some (.int .i64 (i : Int))) (hq : w.cell? q = some (pt sb)) (hr : w.cell? r = some u) (fr : w.frozen? r = false) (hr0 : w0.heap.size ≤ r.block) (hb : s.cur.now.hasI i = true) (hi : i < d.n) (hi2 : i < 4096) (hg : d.dead = false) (hlen : ∀ l, s.cur.fresh i = some l → l.length ≤ 4011) (hu : ∃ A n c, u = .slice A n c) :
    Calls Tryz.prog 76 #[.pointer (some q), .pointer (some p), .pointer (some r)] w fun e w' => ∃ t, e = .returned (.int .i64 t) ∧ ∃ v, w'.cell? r = some v ∧ (∀ l, rdOf s d i = some l → t = 0 ∧ Mem.Own 5 w' w0.heap.size v l) ∧ (rdOf s d i = none → t = 10 ∧ v = .slice none 0 0) ∧ Below w0.heap.size w0 w' := by
  have b1 := hasN h (i : Int)
  rw [hb] at b1
  have B1 := Lib.hid b1
  have H := Lib.hid h
  have HD := Lib.hid hd
  have HB := Lib.hid hB
  have HT := Lib.hid hT
  have v1 := fun n => (drewN_cell w n p).trans hp
  have v2 := fun n => (drewN_cell w n q).trans hq
  have v3 := fun n => (drewN_cell w n r).trans hr
  have v4 : ∀ n, (w.drewN n).frozen? r = false := fun n => by
    obtain ⟨b, j, sp⟩ := r
    have : (w.drewN n).heap = w.heap := (World.drewN_alike w n).1
    simp only [World.frozen?] at fr ⊢
    rw [this]; exact fr
  have C := Lib.hid (fun n => held_slice (h.drewN n) (hd.drewN n) (hT.below (below_drewN (Below.refl _ w) n) hT.1) i hi hi2 hg hlen)
  have K0 := Lib.hid (fun n => below_drewN hB n)
  have V3 := Lib.hid v3
  have FR := Lib.hid (show ∀ n W, Below (w.drewN n).heap.size (w.drewN n) W → W.frozen? r = false from fun n W hb => by
    have hlt := Dk.lt_of_cell (v3 n)
    have h4 := v4 n
    obtain ⟨b, j, sp⟩ := r
    simp only [World.frozen?] at h4 ⊢
    rw [hb.block b hlt]; exact h4)
  have V4 := Lib.hid v4
  clear h hd hb b1 hB hT v3 v4 hlen H HD HB HT
  go_enter Tryz.func76, Tryz.ntmps76
  go_wp2
  go_quiet (first | (go_at_call 55; refine Calls.quiet_of_same (B1.out _)))
  have w1' := v1 nq
  have w2' := v2 nq
  clear hp hq hr fr v1 v2
  go_wp2_with (go_at_call 77; refine (C.out nq).mono ?_; rintro e w1 ⟨A2, n2, c2, t, rfl, h1, h2, h3⟩; have H1 := Lib.hid h1; have H2 := Lib.hid h2; have H3 := Lib.hid h3; have v5 := (h3.cell (Dk.lt_of_cell (V3.out nq))).trans (V3.out nq); have v6 : w1.frozen? r = false := FR.out _ _ h3; clear h1 h2 h3)
  go_ret
  have hlt : r.block < (w.drewN nq).heap.size := Dk.lt_of_cell (V3.out nq)
  have hsz : w0.heap.size ≤ (w.drewN nq).heap.size := (K0.out nq).size
  refine ⟨_, rfl, _, World.cell?_setCell_same _ _ _ v5, fun l hl => ⟨(H1.out l hl).1, ?_⟩, H2.out, ((K0.out nq).trans (H3.out.mono hsz)).setCell hr0 _⟩
  have ho := (H1.out l hl).2
  refine Dk.Own.of_block (Own.mono ho hsz) fun k hk => Below.heap_setCell _ _ _ _ (fun e => ?_)
  have := (World.ownsRow.lt ho k hk).1
  omega
/-- What Read answers. -/
def ansRd (s : Sto) (d : Dsk) (i : Int) : Int := if gone s d then 9 else if !s.cur.now.hasI i then 1 else if (rdOf s d i.toNat).isSome then 0 else 10
set_option maxHeartbeats 1000000 in
theorem Read_any (h : IsS w sb y db s) (hd : IsD w db yd d) (hT : Tab w) (hg0 : SGood s) (hnd : s.n = d.n) (i : Int) :
    Calls Tryz.prog 39 #[pt sb, .int .i64 i] w fun e w' => ∃ v, e = .returned (.tuple #[v, .int .i64 (ansRd s d i)]) ∧ (ansRd s d i = 0 → ∃ l, rdOf s d i.toNat = some l ∧ Mem.Own 5 w' w.heap.size v l) ∧ (ansRd s d i ≠ 0 → v = .slice none 0 0) ∧ Below w.heap.size w w' := by
  obtain ⟨W, hW⟩ : ∃ W, W = ((w.alloc (.cells #[pt sb] 25)).alloc (.cells #[.int .i64 i] 3)).alloc (.cells #[.slice none 0 0] 36) := ⟨_, rfl⟩
  have hx : Bx3 w W (pt sb) (.int .i64 i) (.slice none 0 0) := hW ▸ bx3 w _ _ _ _ _ _
  have hI := h.below hx.bel
  have hD := hd.below hx.bel
  have HW := Lib.hid hW
  have hmk := hmf
  have key : Calls Tryz.prog 47 #[pt sb, .func (.func 76) #[] #[.pointer (some ⟨w.heap.size, 0, none⟩), .pointer (some ⟨w.heap.size + 1, 0, none⟩), .pointer (some ⟨w.heap.size + 2, 0, none⟩)]] W fun e w' => e = .returned (.int .i64 (ansRd s d i)) ∧ ∃ A n c, w'.cell? ⟨w.heap.size + 2, 0, none⟩ = some (.slice A n c) ∧ (ansRd s d i = 0 → ∃ l, rdOf s d i.toNat = some l ∧ Mem.Own 5 w' w.heap.size (.slice A n c) l) ∧ (ansRd s d i ≠ 0 → Value.slice A n c = .slice none 0 0) ∧ Below w.heap.size w w' := by
    by_cases hg : gone s d = true
    · have e0 : ansRd s d i = 9 := if_pos hg
      rw [e0]
      refine (ask_gone hI hD 76 _ (enter54 _) hg).mono ?_
      rintro e w' ⟨rfl, rfl⟩
      exact ⟨rfl, _, _, _, hx.c3, fun e => absurd e (by omega), fun _ => rfl, hx.bel⟩
    · have hg' : gone s d = false := by simpa using hg
      by_cases hb : s.cur.now.hasI i = true
      · obtain ⟨k, rfl⟩ := Int.eq_ofNat_of_zero_le (hasI_lt hb).1
        have hk := hasI_lt hb
        rw [Int.toNat_natCast] at hk
        have hkn := (hg0.cur.has k hk.2.2).2
        have hdd : d.dead = false := by simp [gone] at hg'; exact hg'.2
        refine (ask_yes hI hD 76 _ (enter54 _) hg' (read1_ok hI hD (hT.below hx.bel hT.1) hx.bel _ _ _ k _ hx.c2 hx.c1 hx.c3 hx.f3 (by simp) hb (by omega) (by omega) hdd (fun l hl => hg0.cur.len k l hl) ⟨_, _, _, rfl⟩)).mono ?_
        rintro e w' ⟨t, rfl, v, c1, h1, h2, h3⟩
        rcases hr : rdOf s d k with _ | l
        · obtain ⟨rfl, rfl⟩ := h2 hr
          have e0 : ansRd s d (k : Int) = 10 := by unfold ansRd; rw [if_neg hg, hb, Int.toNat_natCast, hr]; rfl
          rw [e0]
          exact ⟨rfl, _, _, _, c1, fun e => absurd e (by omega), fun _ => rfl, h3⟩
        · obtain ⟨rfl, ho⟩ := h1 l hr
          have e0 : ansRd s d (k : Int) = 0 := by unfold ansRd; rw [if_neg hg, hb, Int.toNat_natCast, hr]; rfl
          rw [e0, Int.toNat_natCast]
          obtain ⟨A, c, rfl, _⟩ := ho.form
          exact ⟨rfl, _, _, _, c1, fun _ => ⟨l, hr, ho⟩, fun e => absurd rfl e, h3⟩
      · have hb' : s.cur.now.hasI i = false := by simpa using hb
        have e0 : ansRd s d i = 1 := by unfold ansRd; rw [if_neg hg, hb']; rfl
        rw [e0]
        refine (ask_yes hI hD 76 _ (enter54 _) hg' (read1_bad hI _ _ ⟨w.heap.size + 2, 0, none⟩ i hx.c2 hx.c1 hb')).mono ?_
        rintro e w' ⟨t, rfl, rfl, n, rfl⟩
        exact ⟨rfl, _, _, _, (drewN_cell W n _).trans hx.c3, fun e => absurd e (by omega), fun _ => rfl, below_drewN hx.bel n⟩
  have KEY := Lib.hid key
  clear hx hW hI hD h hd key hT hg0 hnd
  go_enter Tryz.func39, Tryz.ntmps39
  go_wp2_with (go_at_call 47; rw [← HW.out]; refine KEY.out.mono ?_; rintro e w1 ⟨rfl, A, n, c, c1, h1, h2, h3⟩; have H1 := Lib.hid h1; have H2 := Lib.hid h2; have H3 := Lib.hid h3; clear h1 h2 h3)
  go_ret2
  exact ⟨_, rfl, H1.out, H2.out, H3.out⟩
end
end Go.Proofs.YtnpebfolmdbipaaGreatDoor.Sk

namespace Go.Proofs.YtnpebfolmdbipaaGreatDoor.Sk
set_option maxRecDepth 8000
set_option linter.unusedVariables false
set_option linter.unusedSimpArgs false
open Go.RowKit Mem Go.ChangeMaps
open Dk (cod elem cod_inj elem_mk elem_inv key key_inj wf_key keyed3 MapIs Fr ptr hmf cell_alloc cell_alloc_new zero42 IsD Dsk Lay drewN_cell)
/-- The bytes of a head. -/
def bitl (t : Sta) (n : Nat) : List UInt8 := (List.range ((n + 7) / 8)).map fun j => UInt8.ofNat (pk t.has j)
def headOf (t : Sta) (n : Nat) : List UInt8 := be 8 t.root ++ bitl t n
theorem bitl_len (t : Sta) (n : Nat) : (bitl t n).length = (n + 7) / 8 := by simp [bitl]
theorem headOf_len (t : Sta) (n : Nat) : (headOf t n).length = 8 + (n + 7) / 8 := by simp [headOf, length_be, bitl_len]
theorem bitl_at (t : Sta) (n j : Nat) (h : j < (bitl t n).length) : ((bitl t n)[j].toNat : Int) = (pk t.has j : Int) := by
  simp only [bitl, List.getElem_map, List.getElem_range, UInt8.toNat_ofNat']
  have := pk_lt t.has j
  rw [Nat.mod_eq_of_lt (by simpa using this)]
theorem unsig_nat (n : Nat) (h : n < 9223372036854775808) : unsig (n : Int) = n := by
  unfold unsig; rw [IntKind.wrap_u64]; omega
section
variable {w w' : World} {sb db : Nat} {y : SLay} {s : Sto} {yd : Dk.Lay} {d : Dk.Dsk}
theorem are_parts' (w : World) (ps : List Part) (t : TypeId) (hp : ∀ p, p ∈ ps → Rd w w.heap.size p.A p.c p.l) :
    AreParts (w.alloc (.cells (ps.map Part.v).toArray t)) (w.alloc (.cells (ps.map Part.v).toArray t)).heap.size w.heap.size 0 ps := by
  have := are_parts w ps t hp
  rwa [← size_alloc' w (.cells (ps.map Part.v).toArray t)] at this
theorem size_bits (w : World) (n : Nat) (hn : n ≤ 4096) : Calls Tryz.prog 119 #[.int .i64 (n : Int)] w fun e w' => e = .returned (.int .i64 ((n + 7) / 8 : Nat)) ∧ w' = w := by
  go_enter Tryz.func119, Tryz.ntmps119
  go_wp2
  go_ret
  exact ⟨rfl, rfl⟩
theorem rd_bits {b o : Nat} {t : Sta} (h : StaAt w b o t) (n : Nat) (hn : n ≤ 4096) (hb : b < w.heap.size) : Rd w w.heap.size (some ⟨b, o + 1, none⟩) 512 (bitl t n) := by
  refine ⟨by rw [bitl_len]; omega, by unfold maxLen; omega, fun e => (by cases e), fun _ => ⟨b, o + 1, rfl, hb, fun i hi => ?_⟩⟩
  rw [bitl_at t n i hi]
  exact h.byte i (by rw [bitl_len] at hi; omega)
set_option maxHeartbeats 1000000 in
theorem told_any (h : IsS w sb y db s) (hr : s.cur.now.root < 4096) (n : Nat) (hn : n ≤ 4096) :
    Calls Tryz.prog 102 #[pt sb, .int .i64 (n : Int)] w fun e w' => ∃ v, e = .returned v ∧ Mem.Own 5 w' w.heap.size v (headOf s.cur.now n) ∧ Below w.heap.size w w' := by
  have hc := h.croot
  have hlt := h.row.lt
  have hu := unsig_nat s.cur.now.root (by omega)
  have hbits := rd_bits h.drew.now n hn (w := w.drew) hlt
  have hbl := bitl_len s.cur.now n
  have b1 : (0 : Int) ≤ ((bitl s.cur.now n).length : Int) := by omega
  have b2 : ((bitl s.cur.now n).length : Int) ≤ 512 := by omega
  have hsb : ∀ W, Calls Tryz.prog 119 #[.int .i64 (n : Int)] W fun e w' => e = .returned (.int .i64 ((bitl s.cur.now n).length : Int)) ∧ w' = W := fun W => by rw [hbl]; exact size_bits W n hn
  unfold headOf
  generalize bitl s.cur.now n = bl at hbits b1 b2 hsb hbl ⊢
  have HK := Lib.hid hsb
  have HBI := Lib.hid hbits
  have HBL := Lib.hid (show bl.length ≤ 512 by omega)
  have HW := Lib.hid (Int_any none 0 [] (s.cur.now.root : Int) w.drew (Rd.nil _ _) (by simp))
  have HU := Lib.hid hu
  generalize s.cur.now.root = ro at hc HW HU ⊢
  have HLT := Lib.hid hlt
  clear h hu hn hr hbits hsb hbl hlt
  go_enter Tryz.func102, Tryz.ntmps102
  go_wp2
  have c0 : w.drew.cell? ⟨sb, 0, none⟩ = some (.int .i64 (ro : Int)) := hc
  have HC := Lib.hid c0
  clear c0 hc
  go_region_held3 (fun w' => w'.cell? ⟨sb, 0, none⟩ = some (.int .i64 (ro : Int)))
    (first | exact HC.out | exact P4.out | exact P5.out _ | exact P6.out)
    (first
      | (go_at_call 111; go_loud (refine (concat_any w4.heap.size 0 2 [⟨A4, c4, be 8 (unsig (ro : Int))⟩, ⟨some ⟨sb, 1, none⟩, 512, bl⟩] _ PX.out PA.out (by simp) PL.out).mono ?_; rintro e w6 ⟨v6, rfl, ho6, hb6⟩; have O6 := Lib.hid ho6; have B6 := Lib.hid hb6; have P6 := Lib.hid ((hb6.cell (by have := PX.out; have := B4.out.size; have := HLT.out; simp at *; omega)).trans (P5.out _)); clear ho6 hb6))
      | (go_at_call 83; refine HW.out.mono ?_; rintro e w4 ⟨v4, rfl, ho, hb⟩; obtain ⟨A4, c4, rfl, hr4, _, _⟩ := ho.form; have R4 := Lib.hid hr4; have B4 := Lib.hid hb; have P4 := Lib.hid ((hb.cell HLT.out).trans HC.out); have P5 := Lib.hid (fun o => cell_alloc P4.out o); have PA := Lib.hid (are_parts' w4 [⟨A4, c4, be 8 (unsig (ro : Int))⟩, ⟨some ⟨sb, 1, none⟩, 512, bl⟩] 36 (by simp only [List.mem_cons, List.not_mem_nil, or_false]; rintro p (rfl | rfl); exact R4.out; exact Rd.more (HBI.out.below hb) hb.size)); have PX := Lib.hid (show w4.heap.size < (w4.alloc (.cells (([⟨A4, c4, be 8 (unsig (ro : Int))⟩, ⟨some ⟨sb, 1, none⟩, 512, bl⟩] : List Part).map Part.v).toArray 36)).heap.size by simp); have PL := Lib.hid (show (flat [⟨A4, c4, be 8 (unsig (ro : Int))⟩, ⟨some ⟨sb, 1, none⟩, 512, bl⟩]).length ≤ 70368744177664 by have := HBL.out; simp [flat, length_be]; omega); clear ho hb hr4)
      | (go_at_call 119; refine (HK.out _).mono ?_; rintro e w5 ⟨rfl, hw5⟩; obtain rfl := hw5.symm))
  go_wp2
  go_ret
  have hs4 : w.heap.size ≤ w4.heap.size := B4.out.size
  have b45 : Below w.heap.size w w6 := ((Below.refl w.heap.size w).drew.trans B4.out).trans ((below_alloc w4 _ ((size_alloc' w4 _) ▸ B6.out)).mono hs4)
  refine ⟨_, rfl, ?_, b45⟩
  have ho := Own.mono O6.out (b' := w.heap.size) (by simp; omega)
  simpa [flat, HU.out] using ho
end
end Go.Proofs.YtnpebfolmdbipaaGreatDoor.Sk

namespace Go.Proofs.YtnpebfolmdbipaaGreatDoor.Sk
set_option maxRecDepth 8000
set_option linter.unusedVariables false
set_option linter.unusedSimpArgs false
open Go.RowKit Mem Go.ChangeMaps
open Dk (cod elem cod_inj elem_mk elem_inv key key_inj wf_key keyed3 MapIs Fr ptr hmf cell_alloc cell_alloc_new zero42 IsD Dsk Lay drewN_cell)
theorem results_ct {fn : Func} {a : Tmp} {t : TypeId} {u : Tmp} {tmps : Array Value} {w : World} (h : fn.results = #[.cell a t, .tmp u]) (b : Nat) (cs : List Value) (dd : TypeDesc) (ha : tmps.getD a undef = .pointer (some ⟨b, 0, none⟩)) (hc : w.rangeAt b 0 cs)
    (hu : Tryz.prog.underlying t = some dd) (hd : dd.isRow = true) (hi : (Tryz.prog.info? t).map (·.size) = some cs.length) : (results fn tmps).run Tryz.prog w = .ok (.tuple #[.agg cs.toArray, tmps.getD u undef]) w := by
  have hl := run_loadVar_mid w b 0 t cs dd hc hu hd hi
  have ha' : tmps[a]?.getD undef = .pointer (some ⟨b, 0, none⟩) := by rw [← ha]; simp
  simp [results, h, ha', asAddr, hl]
/-- The zero state. -/
def sta0 : Sta := ⟨0, fun _ => false⟩
theorem zc73 : Tryz.zeroCells82 = (scs sta0).toArray := by kernel_rfl
theorem range_box (w : World) (cs : List Value) (t : TypeId) : (w.alloc (.cells cs.toArray t)).rangeAt w.heap.size 0 cs := fun j v hv => by
  rw [Nat.zero_add, cell_of_row _ _ _ _ _ _ (heap_alloc_new w _)]
  simpa using hv
/-- Block b is a row that a state fits in. -/
def StRow (w : World) (b : Nat) : Prop := ∃ t, w.rowIs b 82 513 (stc t)
theorem StRow.there {w : World} {b : Nat} (h : StRow w b) (t : Sta) : w.there b 0 (scs t).toArray.size := by
  obtain ⟨t', h⟩ := h
  exact rowIs_there h 0 _ (by simp [scs_len])
theorem rowIs_sta {w : World} {b : Nat} {t : Sta} (h : w.rowIs b 82 513 (stc t)) : StaAt w b 0 t := fun j hj => by rw [Nat.zero_add]; exact h.cell hj
theorem StRow.set {w : World} {b : Nat} (h : StRow w b) (t : Sta) : (w.setCells b 0 (scs t)).rowIs b 82 513 (stc t) := by
  obtain ⟨t', h⟩ := h
  refine (rowIs_setCells (scs t) 0 _ h).congr fun j hj => ?_
  rw [if_pos (Nat.zero_le _), Nat.sub_zero, scs_at t j hj]; rfl
theorem row_new (w : World) (t : Sta) : (w.alloc (.cells (scs t).toArray 82)).rowIs w.heap.size 82 513 (stc t) := by
  have := World.rowIs_alloc w (scs t).toArray 82 (stc t) (fun i hi => by
    simp only [List.size_toArray, scs_len] at hi
    simpa using scs_at t i hi)
  simpa [scs_len] using this
theorem info73a (t : Sta) : (Tryz.prog.info? 82).map (·.size) = some (scs t).toArray.size := by simpa using info73 t
theorem one_scs' (t : Sta) : (scs t).toArray.all (·.oneCell') = true := all_oneCell_toArray (one_scs t)
/-- The bits that a head's bytes tell. -/
def bitsIn (b : List UInt8) (p : Nat) : Bool := decide (p / 8 < b.length - 8) && ((b.getD (8 + p / 8) 0).toNat).testBit (p % 8)
def rootIn (b : List UInt8) : Nat := val (b.take 8)
/-- Does a head say nothing that may not be? -/
def mayHead (b : List UInt8) (n : Nat) : Prop := b.length = 8 + (n + 7) / 8 ∧ (∀ p, p < 4096 → bitsIn b p = true → 2 ≤ p ∧ p < n) ∧ rootIn b < 4096 ∧ (rootIn b = 0 ∨ bitsIn b (rootIn b) = true)
def staIn (b : List UInt8) : Sta := ⟨rootIn b, bitsIn b⟩
theorem pk_bitsIn (b : List UInt8) (j : Nat) (h : j < b.length - 8) : pk (bitsIn b) j = (b.getD (8 + j) 0).toNat := by
  symm
  refine pk_of _ _ _ (b.getD (8 + j) 0).toNat_lt fun i hi => ?_
  unfold bitsIn
  rw [show (8 * j + i) / 8 = j by omega, show (8 * j + i) % 8 = i by omega, decide_eq_true h, Bool.true_and]
theorem pk_bitsIn_out (b : List UInt8) (j : Nat) (h : ¬ j < b.length - 8) : pk (bitsIn b) j = 0 := by
  symm
  refine pk_of _ _ _ (by omega) fun i hi => ?_
  unfold bitsIn
  rw [show (8 * j + i) / 8 = j by omega, decide_eq_false h]
  simp
/-- What a head tells, read again. -/
theorem rootIn_head (t : Sta) (n : Nat) (h : t.root < 4096) : rootIn (headOf t n) = t.root := by
  unfold rootIn headOf
  rw [List.take_left' (length_be 8 _), Frm.val_be8 _ (by omega)]
theorem bitsIn_head (t : Sta) (n : Nat) (hb : ∀ p, t.has p = true → p < n) (p : Nat) : bitsIn (headOf t n) p = t.has p := by
  unfold bitsIn
  rw [headOf_len]
  by_cases hp : p / 8 < (n + 7) / 8
  · have e1 : (headOf t n).getD (8 + p / 8) 0 = UInt8.ofNat (pk t.has (p / 8)) := by
      unfold headOf
      rw [List.getD_eq_getElem?_getD, List.getElem?_append_right (by rw [length_be]; omega), length_be, Nat.add_sub_cancel_left]
      simp [bitl, hp]
    rw [e1, UInt8.toNat_ofNat', Nat.mod_eq_of_lt (by have := pk_lt t.has (p / 8); simpa using this), pk_bit _ _ _ (by omega)]
    rw [decide_eq_true (by omega), Bool.true_and]
    congr 1; omega
  · rw [decide_eq_false (by omega), Bool.false_and]
    rcases hh : t.has p with _ | _
    · rfl
    · have := hb p hh; omega
theorem mayHead_head (t : Sta) (n : Nat) (h : StaOk n t) (hn : n ≤ 4096) (h4 : 4 ≤ n) : mayHead (headOf t n) n ∧ staIn (headOf t n) = t := by
  have hr : t.root < 4096 := by
    rcases h.root with e | e
    · omega
    · have := (h.has _ e).2; omega
  have e1 := rootIn_head t n hr
  have e2 : bitsIn (headOf t n) = t.has := funext (bitsIn_head t n (fun p hp => (h.has p hp).2))
  refine ⟨⟨headOf_len t n, fun p _ hp => ?_, by rw [e1]; exact hr, ?_⟩, by unfold staIn; rw [e1, e2]⟩
  · rw [e2] at hp; exact h.has p hp
  · rw [e1, e2]; exact h.root
theorem mayHead_ok {b : List UInt8} {n : Nat} (h : mayHead b n) (hn : n ≤ 4096) : StaOk n (staIn b) :=
  ⟨fun p hp => h.2.1 p (by
    have hp' : bitsIn b p = true := hp
    unfold bitsIn at hp'
    simp only [Bool.and_eq_true, decide_eq_true_eq] at hp'
    have := h.1; omega) hp, h.2.2.2⟩
section
variable {w w' : World} {sb db : Nat} {y : SLay} {s : Sto} {yd : Dk.Lay} {d : Dk.Dsk}
/-- What lies behind the reader, for the two ways out. -/
structure HEnd (w w4 : World) (k ro : Nat) (f : Nat → Bool) : Prop where
  c : w4.cell? ⟨k + 1, 0, none⟩ = some (.int .i64 0)
  fz : w4.frozen? ⟨k + 1, 0, none⟩ = false
  rg : (w4.setCell ⟨k + 1, 0, none⟩ (.int .i64 (ro : Int))).rangeAt (k + 1) 0 (scs ⟨ro, f⟩)
  th : (w4.setCell ⟨k + 1, 0, none⟩ (.int .i64 (ro : Int))).there k 0 (scs ⟨ro, f⟩).toArray.size
  row : ((w4.setCell ⟨k + 1, 0, none⟩ (.int .i64 (ro : Int))).setCells k 0 (scs ⟨ro, f⟩)).rowIs k 82 513 (stc ⟨ro, f⟩)
  bel : Below k w ((w4.setCell ⟨k + 1, 0, none⟩ (.int .i64 (ro : Int))).setCells k 0 (scs ⟨ro, f⟩))
  th0 : w4.there k 0 (scs sta0).toArray.size
  row0 : (w4.setCells k 0 (scs sta0)).rowIs k 82 513 (stc sta0)
  bel0 : Below k w (w4.setCells k 0 (scs sta0))
theorem hend {w V w4 : World} {k ro : Nat} {f : Nat → Bool} (hb : Below V.heap.size V w4) (hk : V.heap.size = k + 2) (r6 : V.rowIs (k + 1) 82 513 (stc ⟨0, f⟩)) (r4 : V.rowIs k 82 513 (stc sta0)) (hB : Below k w V) : HEnd w w4 k ro f := by
  have q6 := r6.of_block (hb.block (k + 1) (by omega))
  have q4 := r4.of_block (hb.block k (by omega))
  have h6 : (w4.setCell ⟨k + 1, 0, none⟩ (.int .i64 (ro : Int))).rowIs (k + 1) 82 513 (stc ⟨ro, f⟩) := (q6.set 0 _).congr fun j hj => by
    by_cases e : j = 0
    · subst e; rfl
    · rw [if_neg e]; unfold stc; rw [if_neg e, if_neg e]
  have h4 : (w4.setCell ⟨k + 1, 0, none⟩ (.int .i64 (ro : Int))).rowIs k 82 513 (stc sta0) := q4.of_block (Below.heap_setCell _ _ _ _ (by simp))
  have hB4 : Below k w w4 := hB.trans (hb.mono (by omega))
  have hB5 : Below k w (w4.setCell ⟨k + 1, 0, none⟩ (.int .i64 (ro : Int))) := hB4.setCell (by simp) _
  have hs4 : k ≤ w4.heap.size := by have := hb.size; omega
  exact ⟨q6.cell (by omega), q6.frozen 0, StaAt.range (rowIs_sta h6), StRow.there ⟨_, h4⟩ _, StRow.set ⟨_, h4⟩ _,
    hB5.trans ((setCells_fr k _ 0 _).below (by simpa [World.setCell] using hs4) fun j e => by omega),
    StRow.there ⟨_, q4⟩ _, StRow.set ⟨_, q4⟩ _, hB4.trans ((setCells_fr k _ 0 _).below hs4 fun j e => by omega)⟩
set_option maxRecDepth 200000 in
set_option maxHeartbeats 8000000 in
theorem heard_any (A : Option Addr) (c m : Nat) (b : List UInt8) (hr : Rd w w.heap.size A c b) (hl : b.length = m) (hm : m ≤ 4011) (n : Nat) (hn : n ≤ 4096) (hn1 : 1 ≤ n) :
    Calls Tryz.prog 103 #[.slice A m c, .int .i64 (n : Int)] w fun e w' => ∃ t ok, e = .returned (.tuple #[.agg (scs t).toArray, .bool ok]) ∧ (ok = true → mayHead b n ∧ t = staIn b) ∧ (ok = false → ¬ mayHead b n) ∧ Below w.heap.size w w' := by
  have HS := Lib.hid (size_bits · n hn)
  by_cases h0 : b.length = 8 + (n + 7) / 8
  · have hm8 : 8 ≤ m := by omega
    obtain ⟨g, o, rfl, hg, hcell⟩ := hr.2.2.2 (by omega)
    obtain ⟨W1, hW1⟩ : ∃ W1, W1 = (w.alloc (.cells (scs sta0).toArray 82)).alloc (.cells (scs sta0).toArray 82) := ⟨_, rfl⟩
    have hs1 : W1.heap.size = w.heap.size + 2 := by rw [hW1]; simp
    have hb1 : Below w.heap.size w W1 := hW1 ▸ ((Below.refl w.heap.size w).alloc (Nat.le_refl _) _).alloc (by simp) _
    have hr1 := hr.below hb1
    have r4 : W1.rowIs w.heap.size 82 513 (stc sta0) := hW1 ▸ (row_new w sta0).alloc _
    have g6 : W1.heap[w.heap.size + 1]? = some (.cells (scs sta0).toArray 82 (0, 0)) := by
      have := heap_alloc_new (w.alloc (.cells (scs sta0).toArray 82)) (.cells (scs sta0).toArray 82)
      rw [size_alloc'] at this
      rw [hW1]; exact this
    have hd8 := Rd.drop hr1 8 (by omega)
    have hcp : (Builtin.copy_ #[36, 36] 3 #[.slice (some ⟨w.heap.size + 1, 1, none⟩) 512 512, .slice (some ⟨g, o + 8, none⟩) (m - 8) (c - 8)]).run Tryz.prog W1.drew = .ok (.int .i64 ((m - 8 : Nat) : Int)) (W1.drew.setRow (w.heap.size + 1) ((scs sta0).take 1 ++ (b.drop 8).map bv ++ (scs sta0).drop (1 + (m - 8))).toArray) := by
      have hdl : (b.drop 8).length = m - 8 := by rw [List.length_drop, hl]
      have := run_copy_row (P := Tryz.prog) W1.drew 36 36 3 5 (w.heap.size + 1) 1 512 512 ⟨g, o + 8, none⟩ (m - 8) (c - 8) (scs sta0).toArray 82 ((b.drop 8).map bv) Tryz.underlying36 Fm.u8_size g6 (by rw [List.length_map, hdl]; show _ = min _ _; omega)
        (fun j v hv => by
          have hj : j < m - 8 := by have := (List.getElem?_eq_some_iff.1 hv).1; rwa [List.length_map, hdl] at this
          obtain ⟨g', o', e, _, hc'⟩ := hd8.2.2.2 (by omega)
          injection e with e
          injection e with e1 e2
          subst e1; subst e2
          rw [show (⟨g, o + 8, none⟩ : Addr).add j = ⟨g, o + 8 + j, none⟩ by unfold Addr.add; split <;> simp_all]
          rw [List.getElem?_map, List.getElem?_eq_getElem (by omega)] at hv
          exact (hc' j (by omega)).trans hv)
        (by rw [List.length_map, hdl]; simp [scs_len]; omega) (by intro v hv; simp only [List.mem_map] at hv; obtain ⟨x, _, rfl⟩ := hv; rfl)
      rw [List.length_map, hdl] at this
      exact this
    obtain ⟨V, hV⟩ : ∃ V, V = W1.drew.setRow (w.heap.size + 1) ((scs sta0).take 1 ++ (b.drop 8).map bv ++ (scs sta0).drop (1 + (m - 8))).toArray := ⟨_, rfl⟩
    have gV : V.heap[w.heap.size + 1]? = some (.cells ((scs sta0).take 1 ++ (b.drop 8).map bv ++ (scs sta0).drop (1 + (m - 8))).toArray 82 (0, 0)) := hV ▸ Fm.setRow_heap' W1.drew _ _ _ _ _ g6
    have hVo : ∀ k, k ≠ w.heap.size + 1 → V.heap[k]? = W1.heap[k]? := fun k hk => hV ▸ setRow_other W1.drew _ k _ hk
    have hVs : V.heap.size = w.heap.size + 2 := by rw [hV]; simpa [World.setRow] using hs1
    have hbV : Below w.heap.size w V := hb1.trans ⟨by rw [hV]; rfl, by rw [hV]; rfl, by rw [hV]; rfl, by omega, fun k hk => hVo k (by omega)⟩
    have r6 : V.rowIs (w.heap.size + 1) 82 513 (stc ⟨0, bitsIn b⟩) := by
      refine ⟨_, gV, by simp [scs_len]; omega, fun j hj => ?_⟩
      have hdl : (b.drop 8).length = m - 8 := by rw [List.length_drop, hl]
      have e1 : ((scs sta0).take 1).length = 1 := by simp [scs_len]
      rw [List.getElem?_toArray, List.append_assoc]
      rcases Nat.eq_zero_or_pos j with rfl | hp
      · rw [List.getElem?_append_left (by omega), List.getElem?_take_of_lt (by omega), scs_at _ _ (by omega)]; rfl
      · rw [List.getElem?_append_right (by omega), e1]
        have e2 : stc ⟨0, bitsIn b⟩ j = .int .u8 (pk (bitsIn b) (j - 1) : Int) := by unfold stc; rw [if_neg (by omega)]
        rw [e2]
        by_cases h2 : j - 1 < m - 8
        · rw [List.getElem?_append_left (by rw [List.length_map]; omega), List.getElem?_map, List.getElem?_drop, pk_bitsIn b _ (by omega)]
          rw [List.getD_eq_getElem?_getD, List.getElem?_eq_getElem (by omega)]; rfl
        · rw [List.getElem?_append_right (by rw [List.length_map]; omega), List.length_map, hdl, List.getElem?_drop, scs_at _ _ (by omega), pk_bitsIn_out b _ (by omega)]
          unfold stc; rw [if_neg (by omega)]
          have : pk sta0.has (1 + (m - 8) + (j - 1 - (m - 8)) - 1) = 0 := by
            symm; exact pk_of _ _ _ (by omega) fun i hi => by simp [sta0]
          rw [this]
    have r4V : V.rowIs w.heap.size 82 513 (stc sta0) := r4.of_block (hVo _ (by omega))
    have hrV := hr.below hbV
    have S6 := rowIs_sta r6
    have HV := Lib.hid (And.intro hbV (And.intro r6 (And.intro r4V (And.intro hrV hVs))))
    have hcond : (((m : Nat) : Int) != wrap64 (8 + (((n + 7) / 8 : Nat) : Int))) = false := by
      have : wrap64 (8 + (((n + 7) / 8 : Nat) : Int)) = 8 + (((n + 7) / 8 : Nat) : Int) := by unfold wrap64; omega
      rw [this]; simp; omega
    have i1 : IntKind.i64.wrap 8 = 8 := by decide
    have hzc := zc73
    have HHW := Lib.hid hW1
    have HHV := Lib.hid hV
    have HL := Lib.hid (And.intro hl (And.intro h0 (And.intro hm hm8)))
    have hc8 : ¬ c = 8 := by have := hr.1; omega
    have j1 : (8 : Int) ≤ (m : Int) := by omega
    have j2 : (m : Int) ≤ (c : Int) := by have := hr.1; omega
    have hcc : (c : Int) ≤ 9223372036854775807 := by have := hr.2.1; unfold maxLen at this; omega
    rw [← hV] at hcp
    generalize (n + 7) / 8 = k at HS hcond
    clear hr hr1 hb1 hs1 r4 g6 hd8 hV gV hVo hVs hbV r6 r4V hrV S6 hW1 hl h0 hm hm8 hcell
    go_enter Tryz.func103, Tryz.ntmps103
    go_wp2_with (first
      | (go_at_call 119; refine (HS.out _).mono ?_; rintro e w5 ⟨rfl, hw5⟩; obtain rfl := hw5.symm))
    rw [← HHW.out]
    go_still_tail 4, (by kernel_rfl)
    change wpList _ _ _ _ _ W1.drew
    generalize W1.drew = W2 at hcp ⊢
    go_wp2
    have HTH := Lib.hid (And.intro (StRow.there ⟨_, HV.out.2.2.1⟩ sta0) (And.intro (info73a sta0) (one_scs' sta0)))
    have HZ := Lib.hid (StRow.set ⟨_, HV.out.2.2.1⟩ sta0)
    have HBZ := Lib.hid (HV.out.1.trans ((setCells_fr w.heap.size (scs sta0) 0 V).below (by have := HV.out.1.size; omega) fun k e => by omega) : Below w.heap.size w (V.setCells w.heap.size 0 (scs sta0)))
    have HI := Lib.hid (info73 sta0)
    clear hcp j1 j2 hcc hc8
    go_loopw [21] (fun v wr => ∃ q : Nat, q ≤ 4096 ∧ v = .int .i64 q ∧ wr = V ∧ Hid (∀ p, p < q → bitsIn b p = true → 2 ≤ p ∧ p < n)) (fun v _ => 4096 - (intOf v).toNat)
    case atStart => exact ⟨0, by omega, rfl, rfl, Lib.hid fun p hp => by omega⟩
    case round =>
      obtain ⟨q, hq, rfl, rfl, hall⟩ := hrel
      by_cases hlt : q < 4096
      · have hlt' : (q : Int) < 4096 := by omega
        have hA := has_any wr (w.heap.size + 1) 0 ⟨0, bitsIn b⟩ q (rowIs_sta HV.out.2.1)
        rw [hasI_nat _ q hlt] at hA
        have hA : Calls Tryz.prog 55 #[.pointer (some ⟨w.heap.size + 1, 0, none⟩), .int .i64 (q : Int)] wr fun e w' => e = .returned (.bool (bitsIn b q)) ∧ w' = wr := hA
        by_cases hb : bitsIn b q = true
        · rw [hb] at hA
          have HA := Lib.hid hA
          by_cases hr2 : 2 ≤ q ∧ q < n
          · have e1 : (2 : Int) ≤ (q : Int) := by omega
            have e2 : (q : Int) < (n : Int) := by omega
            have hall2 := Lib.hid (show ∀ p, p < q + 1 → bitsIn b p = true → 2 ≤ p ∧ p < n from fun p hp hbp => by
              by_cases e : p = q
              · subst e; exact hr2
              · exact hall.out p (by omega) hbp)
            clear hA hr2 hb hcond i1 hn hn1 hg
            go_wp2_with (go_at_call 55; refine HA.out.mono ?_; rintro e w1 ⟨rfl, hw1⟩; obtain rfl := hw1.symm)
            go_roundw
            case rel => exact ⟨q + 1, by omega, by go_num, trivial, hall2⟩
            case measure => simp [intOf]; omega
          · have HN := Lib.hid (show ¬ mayHead b n from fun e => hr2 (e.2.1 q hlt hb))
            clear hA hb
            by_cases e1 : (q : Int) < 2
            · clear hr2
              go_wp2_with (first
                | (go_at_call 55; refine HA.out.mono ?_; rintro e w1 ⟨rfl, hw1⟩; obtain rfl := hw1.symm)
                | (refine wpList_store_mid rfl 82 _ _ rfl w.heap.size 0 _ rfl rfl HTH.out.1 HTH.out.2.1 HTH.out.2.2 ?_))
              refine bodyPost_ret (results_ct rfl w.heap.size (scs sta0) _ rfl (StaAt.range (rowIs_sta HZ.out)) Tryz.underlying82 rfl HI.out) rfl ?_
              exact ⟨sta0, false, rfl, fun e => (by cases e), fun _ => HN.out, HBZ.out⟩
            · have e2 : (n : Int) ≤ (q : Int) := by omega
              clear hr2
              go_wp2_with (first
                | (go_at_call 55; refine HA.out.mono ?_; rintro e w1 ⟨rfl, hw1⟩; obtain rfl := hw1.symm)
                | (refine wpList_store_mid rfl 82 _ _ rfl w.heap.size 0 _ rfl rfl HTH.out.1 HTH.out.2.1 HTH.out.2.2 ?_))
              refine bodyPost_ret (results_ct rfl w.heap.size (scs sta0) _ rfl (StaAt.range (rowIs_sta HZ.out)) Tryz.underlying82 rfl HI.out) rfl ?_
              exact ⟨sta0, false, rfl, fun e => (by cases e), fun _ => HN.out, HBZ.out⟩
        · have hb' : bitsIn b q = false := by simpa using hb
          rw [hb'] at hA
          have HA := Lib.hid hA
          have hall2 := Lib.hid (show ∀ p, p < q + 1 → bitsIn b p = true → 2 ≤ p ∧ p < n from fun p hp hbp => by
            by_cases e : p = q
            · subst e; rw [hb'] at hbp; cases hbp
            · exact hall.out p (by omega) hbp)
          clear hA hb hb'
          go_wp2_with (go_at_call 55; refine HA.out.mono ?_; rintro e w1 ⟨rfl, hw1⟩; obtain rfl := hw1.symm)
          go_roundw
          case rel => exact ⟨q + 1, by omega, by go_num, trivial, hall2⟩
          case measure => simp [intOf]; omega
      · obtain rfl : q = 4096 := by omega
        have hnl : ¬ ((4096 : Nat) : Int) < 4096 := by omega
        clear hlt
        have hbV := HV.out.1
        have hszV : wr.heap.size = w.heap.size + 2 := HV.out.2.2.2.2
        have HNW := Lib.hid (New_any (some ⟨g, o, none⟩) c m b wr (Rd.more HV.out.2.2.2.1 hbV.size) HL.out.1 (by have := HL.out.2.2.1; omega))
        have hlen8 : ¬ b.length < 8 := by have := HL.out; omega
        have hroot : (⟨b, false⟩ : St).num 8 = rootIn b := by unfold St.num rootIn; rw [if_neg (by simp), if_neg hlen8]
        have HRO := Lib.hid hroot
        clear hbV hszV hlen8 hroot hcond i1 hn hn1 hg
        have hrl := num_lt (⟨b, false⟩ : St) 8
        rw [HRO.out] at hrl
        have RL := Lib.hid hrl
        clear hrl
        have key : ∀ w3 w4 gg, Below wr.heap.size wr w3 → wr.heap.size ≤ gg → Left w3 w4 gg ((⟨b, false⟩ : St).after 8) → Below wr.heap.size wr w4 := fun w3 w4 gg h1 h2 h3 => h1.trans (Left.below h3 h2 h1.size)
        have KEY := Lib.hid key
        clear key
        by_cases hbig : 4096 ≤ rootIn b
        · by_cases hX : True
          · by_cases hY : True
            · have HN := Lib.hid (show ¬ mayHead b n from fun e => by have := e.2.2.1; omega)
              have k1 : (4096 : Int) ≤ (rootIn b : Int) := by omega
              clear hbig hX hY
              go_wp2_with (first
                | (refine wpList_store_mid rfl 82 _ _ rfl w.heap.size 0 _ rfl rfl E4.out.th0 (info73a _) (one_scs' _) ?_)
                | (go_at_call 109; refine (RUint_any gg ⟨b, false⟩ _ G3.out).mono ?_; rintro e w4 ⟨rfl, hl4⟩; rw [HRO.out]; have b4 := KEY.out _ _ _ B3.out L3.out hl4; have B4 := Lib.hid b4; have e4 : HEnd w w4 w.heap.size (rootIn b) (bitsIn b) := hend b4 HV.out.2.2.2.2 HV.out.2.1 HV.out.2.2.1 HV.out.1; have E4 := Lib.hid e4; clear hl4 b4 e4)
                | (go_at_call 105; refine HNW.out.mono ?_; rintro e w3 ⟨gg, rfl, hl3, hg3, hb3⟩; have L3 := Lib.hid hl3; have G3 := Lib.hid hg3; have B3 := Lib.hid hb3; clear hl3 hg3 hb3))
              refine bodyPost_ret (results_ct rfl w.heap.size (scs sta0) _ rfl (StaAt.range (rowIs_sta E4.out.row0)) Tryz.underlying82 rfl (info73 _)) rfl ?_
              exact ⟨sta0, false, rfl, fun e => (by cases e), fun _ => HN.out, E4.out.bel0⟩
            · exact absurd trivial hY
          · exact absurd trivial hX
        · by_cases hz : rootIn b = 0
          · by_cases hX : True
            · have HN := Lib.hid (show mayHead b n from ⟨HL.out.2.1, fun p hp => hall.out p hp, by omega, .inl hz⟩)
              have k1 : ¬ (4096 : Int) ≤ (rootIn b : Int) := by omega
              have k2 : ((rootIn b : Int) != 0) = false := by simp; omega
              have k3 : IntKind.i64.wrap (rootIn b : Int) = (rootIn b : Int) := by rw [IntKind.wrap_i64]; omega
              have k4 : (rootIn b : Int) < 4096 := by omega
              clear hz hbig hX
              go_wp2_with (first
                | (refine wpList_load_mid rfl 82 _ rfl (w.heap.size + 1) 0 rfl _ _ E4.out.rg Tryz.underlying82 rfl (info73 _) ?_)
                | (refine wpList_store_mid rfl 82 _ _ rfl w.heap.size 0 _ rfl rfl E4.out.th (info73a _) (one_scs' _) ?_)
                | (go_at_call 109; refine (RUint_any gg ⟨b, false⟩ _ G3.out).mono ?_; rintro e w4 ⟨rfl, hl4⟩; rw [HRO.out]; have b4 := KEY.out _ _ _ B3.out L3.out hl4; have B4 := Lib.hid b4; have e4 : HEnd w w4 w.heap.size (rootIn b) (bitsIn b) := hend b4 HV.out.2.2.2.2 HV.out.2.1 HV.out.2.2.1 HV.out.1; have E4 := Lib.hid e4; have c4 := e4.c; have f4 := e4.fz; clear hl4 b4 e4)
                | (go_at_call 105; refine HNW.out.mono ?_; rintro e w3 ⟨gg, rfl, hl3, hg3, hb3⟩; have L3 := Lib.hid hl3; have G3 := Lib.hid hg3; have B3 := Lib.hid hb3; clear hl3 hg3 hb3))
              refine bodyPost_ret (results_ct rfl w.heap.size (scs ⟨rootIn b, bitsIn b⟩) _ rfl (StaAt.range (rowIs_sta E4.out.row)) Tryz.underlying82 rfl (info73 _)) rfl ?_
              exact ⟨⟨rootIn b, bitsIn b⟩, true, rfl, fun _ => ⟨HN.out, rfl⟩, fun e => (by cases e), E4.out.bel⟩
            · exact absurd trivial hX
          · by_cases hh : bitsIn b (rootIn b) = true
            · have HN := Lib.hid (show mayHead b n from ⟨HL.out.2.1, fun p hp => hall.out p hp, by omega, .inr hh⟩)
              have hA : ∀ W, Below wr.heap.size wr W → Calls Tryz.prog 55 #[.pointer (some ⟨w.heap.size + 1, 0, none⟩), .int .i64 (rootIn b : Int)] W fun e w' => e = .returned (.bool true) ∧ W = w' := fun W hW => by
                have := has_any W (w.heap.size + 1) 0 ⟨0, bitsIn b⟩ (rootIn b : Int) ((rowIs_sta HV.out.2.1).keep (hW.block _ (by have := HV.out.2.2.2.2; omega)))
                rw [hasI_nat _ _ (by omega)] at this
                refine this.mono ?_
                rintro e w' ⟨rfl, rfl⟩
                exact ⟨by show Ending.returned (Value.bool (bitsIn b (rootIn b))) = _; rw [hh], rfl⟩
              have HA := Lib.hid hA
              have k1 : ¬ (4096 : Int) ≤ (rootIn b : Int) := by omega
              have k2 : ((rootIn b : Int) != 0) = true := by simp; omega
              have k3 : IntKind.i64.wrap (rootIn b : Int) = (rootIn b : Int) := by rw [IntKind.wrap_i64]; omega
              have k4 : (rootIn b : Int) < 4096 := by omega
              clear hA hz hh hbig
              go_wp2_with (first
                | (refine wpList_load_mid rfl 82 _ rfl (w.heap.size + 1) 0 rfl _ _ E4.out.rg Tryz.underlying82 rfl (info73 _) ?_)
                | (refine wpList_store_mid rfl 82 _ _ rfl w.heap.size 0 _ rfl rfl E4.out.th (info73a _) (one_scs' _) ?_)
                | (go_at_call 55; refine (HA.out _ B4.out).mono ?_; rintro e w5 ⟨rfl, rfl⟩)
                | (go_at_call 109; refine (RUint_any gg ⟨b, false⟩ _ G3.out).mono ?_; rintro e w4 ⟨rfl, hl4⟩; rw [HRO.out]; have b4 := KEY.out _ _ _ B3.out L3.out hl4; have B4 := Lib.hid b4; have e4 : HEnd w w4 w.heap.size (rootIn b) (bitsIn b) := hend b4 HV.out.2.2.2.2 HV.out.2.1 HV.out.2.2.1 HV.out.1; have E4 := Lib.hid e4; have c4 := e4.c; have f4 := e4.fz; clear hl4 b4 e4)
                | (go_at_call 105; refine HNW.out.mono ?_; rintro e w3 ⟨gg, rfl, hl3, hg3, hb3⟩; have L3 := Lib.hid hl3; have G3 := Lib.hid hg3; have B3 := Lib.hid hb3; clear hl3 hg3 hb3))
              refine bodyPost_ret (results_ct rfl w.heap.size (scs ⟨rootIn b, bitsIn b⟩) _ rfl (StaAt.range (rowIs_sta E4.out.row)) Tryz.underlying82 rfl (info73 _)) rfl ?_
              exact ⟨⟨rootIn b, bitsIn b⟩, true, rfl, fun _ => ⟨HN.out, rfl⟩, fun e => (by cases e), E4.out.bel⟩
            · have hh' : bitsIn b (rootIn b) = false := by simpa using hh
              have HN := Lib.hid (show ¬ mayHead b n from fun e => e.2.2.2.elim (fun e2 => hz e2) (fun e2 => hh e2))
              have hA : ∀ W, Below wr.heap.size wr W → Calls Tryz.prog 55 #[.pointer (some ⟨w.heap.size + 1, 0, none⟩), .int .i64 (rootIn b : Int)] W fun e w' => e = .returned (.bool false) ∧ W = w' := fun W hW => by
                have := has_any W (w.heap.size + 1) 0 ⟨0, bitsIn b⟩ (rootIn b : Int) ((rowIs_sta HV.out.2.1).keep (hW.block _ (by have := HV.out.2.2.2.2; omega)))
                rw [hasI_nat _ _ (by omega)] at this
                refine this.mono ?_
                rintro e w' ⟨rfl, rfl⟩
                exact ⟨by show Ending.returned (Value.bool (bitsIn b (rootIn b))) = _; rw [hh'], rfl⟩
              have HA := Lib.hid hA
              have k1 : ¬ (4096 : Int) ≤ (rootIn b : Int) := by omega
              have k2 : ((rootIn b : Int) != 0) = true := by simp; omega
              have k3 : IntKind.i64.wrap (rootIn b : Int) = (rootIn b : Int) := by rw [IntKind.wrap_i64]; omega
              have k4 : (rootIn b : Int) < 4096 := by omega
              clear hA hz hh hh' hbig
              go_wp2_with (first
                | (refine wpList_store_mid rfl 82 _ _ rfl w.heap.size 0 _ rfl rfl E4.out.th0 (info73a _) (one_scs' _) ?_)
                | (go_at_call 55; refine (HA.out _ B4.out).mono ?_; rintro e w5 ⟨rfl, rfl⟩)
                | (go_at_call 109; refine (RUint_any gg ⟨b, false⟩ _ G3.out).mono ?_; rintro e w4 ⟨rfl, hl4⟩; rw [HRO.out]; have b4 := KEY.out _ _ _ B3.out L3.out hl4; have B4 := Lib.hid b4; have e4 : HEnd w w4 w.heap.size (rootIn b) (bitsIn b) := hend b4 HV.out.2.2.2.2 HV.out.2.1 HV.out.2.2.1 HV.out.1; have E4 := Lib.hid e4; clear hl4 b4 e4)
                | (go_at_call 105; refine HNW.out.mono ?_; rintro e w3 ⟨gg, rfl, hl3, hg3, hb3⟩; have L3 := Lib.hid hl3; have G3 := Lib.hid hg3; have B3 := Lib.hid hb3; clear hl3 hg3 hb3))
              refine bodyPost_ret (results_ct rfl w.heap.size (scs sta0) _ rfl (StaAt.range (rowIs_sta E4.out.row0)) Tryz.underlying82 rfl (info73 _)) rfl ?_
              exact ⟨sta0, false, rfl, fun e => (by cases e), fun _ => HN.out, E4.out.bel0⟩
  · have h1 : ((m : Int) != wrap64 (8 + (((n + 7) / 8 : Nat) : Int))) = true := by
      have : wrap64 (8 + (((n + 7) / 8 : Nat) : Int)) = 8 + (((n + 7) / 8 : Nat) : Int) := by unfold wrap64; omega
      rw [this]; simp; omega
    have hno : ¬ mayHead b n := fun e => h0 e.1
    have HN := Lib.hid hno
    have hR := row_new w sta0
    have HT := Lib.hid (And.intro (StRow.there ⟨_, hR⟩ sta0) (And.intro (info73a sta0) (one_scs' sta0)))
    have HR := Lib.hid (StRow.set ⟨_, hR⟩ sta0)
    have hB : Below w.heap.size w ((w.alloc (.cells (scs sta0).toArray 82)).setCells w.heap.size 0 (scs sta0)) := by
      have hf := setCells_fr w.heap.size (scs sta0) 0 (w.alloc (.cells (scs sta0).toArray 82))
      exact ((Below.refl w.heap.size w).alloc (Nat.le_refl _) _).trans (hf.below (by simp) fun k e => by omega)
    have HB := Lib.hid hB
    have hzc := zc73
    have HI := Lib.hid (info73 sta0)
    generalize (n + 7) / 8 = k at HS h1
    clear hr hl h0 hno hR hB
    go_enter Tryz.func103, Tryz.ntmps103
    go_wp2_with (first
      | (go_at_call 119; refine (HS.out _).mono ?_; rintro e w5 ⟨rfl, hw5⟩; obtain rfl := hw5.symm)
      | (refine wpList_store_mid rfl 82 _ _ rfl w.heap.size 0 _ rfl rfl HT.out.1 HT.out.2.1 HT.out.2.2 ?_))
    refine bodyPost_ret (results_ct rfl w.heap.size (scs sta0) _ rfl (StaAt.range (rowIs_sta HR.out)) Tryz.underlying82 rfl HI.out) rfl ?_
    exact ⟨sta0, false, rfl, fun e => (by cases e), fun _ => HN.out, HB.out⟩
end
end Go.Proofs.YtnpebfolmdbipaaGreatDoor.Sk

