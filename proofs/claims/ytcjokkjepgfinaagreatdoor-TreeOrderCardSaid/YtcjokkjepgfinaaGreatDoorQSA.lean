import Derived.Test.YtcjokkjepgfinaaGreatDoorQF7
import Derived.Test.YtcjokkjepgfinaaGreatDoorQDT
import Derived.Test.YtcjokkjepgfinaaGreatDoorQL2
import Derived.Test.YtcjokkjepgfinaaGreatDoorQW6
import Derived.Deep.MidRow
import Derived.StillTailTactics
import Derived.BigQuiet
import Derived.Lib.BitFns
import Derived.Deep.WholeRow
set_option linter.unusedVariables false
set_option linter.unusedSimpArgs false
namespace Go.Proofs.YtcjokkjepgfinaaGreatDoor.Fm
open Go.RowKit Mem
def sec (l : List UInt8) (k : Nat) : List UInt8 := (l.drop (512 * k)).take 512
theorem sec_at (l : List UInt8) (k i : Nat) : (sec l k)[i]? = if i < 512 then l[512 * k + i]? else none := by
  unfold sec
  rw [List.getElem?_take, List.getElem?_drop]
theorem all_secs (p q : List UInt8) (hp : p.length = 4096) (hq : q.length = 4096) (h : ∀ k, k < 8 → sec p k = sec q k) : p = q := by
  apply List.ext_getElem?
  intro i
  by_cases hi : i < 4096
  · have h1 := congrArg (fun l : List UInt8 => l[i % 512]?) (h (i / 512) (by omega))
    simp only [sec_at] at h1
    rw [if_pos (Nat.mod_lt _ (by omega)), if_pos (Nat.mod_lt _ (by omega)), Nat.div_add_mod] at h1
    exact h1
  · rw [List.getElem?_eq_none (by omega), List.getElem?_eq_none (by omega)]
def mb (m k : Nat) : Prop := m / 2 ^ k % 2 = 1
instance (m k : Nat) : Decidable (mb m k) := by unfold mb; infer_instance
structure Mix (O N z : List UInt8) (p : Nat → Prop) : Prop where
  lo : O.length = 4096
  ln : N.length = 4096
  lz : z.length = 4096
  yes : ∀ q, q < 8 → p q → sec z q = sec N q
  no : ∀ q, q < 8 → ¬ p q → sec z q = sec O q
theorem Mix.all {O N z : List UInt8} {p : Nat → Prop} (h : Mix O N z p) (hp : ∀ q, q < 8 → p q) : z = N := all_secs _ _ h.lz h.ln fun q hq => h.yes q hq (hp q hq)
theorem Mix.none {O N z : List UInt8} {p : Nat → Prop} (h : Mix O N z p) (hp : ∀ q, q < 8 → ¬ p q) : z = O := all_secs _ _ h.lz h.lo fun q hq => h.no q hq (hp q hq)
end Go.Proofs.YtcjokkjepgfinaaGreatDoor.Fm
namespace Go.Proofs.YtcjokkjepgfinaaGreatDoor.Sk
set_option maxRecDepth 8000
open Go.RowKit Mem
structure Sta where
  root : Nat
  has : Nat → Bool
def pkTo (f : Nat → Bool) (j : Nat) : Nat → Nat
  | 0 => 0
  | k + 1 => pkTo f j k + if f (8 * j + k) then 2 ^ k else 0
def pk (f : Nat → Bool) (j : Nat) : Nat := pkTo f j 8
theorem pkTo_lt (f : Nat → Bool) (j k : Nat) : pkTo f j k < 2 ^ k := by
  induction k with
  | zero => simp [pkTo]
  | succ k ih => rw [pkTo, Nat.pow_succ]; split <;> omega
theorem pk_lt (f : Nat → Bool) (j : Nat) : pk f j < 256 := pkTo_lt f j 8
theorem pkTo_bit (f : Nat → Bool) (j k i : Nat) (h : i < k) : (pkTo f j k).testBit i = f (8 * j + i) := by
  induction k with
  | zero => omega
  | succ k ih =>
    have hlt := pkTo_lt f j k
    rw [pkTo]
    by_cases hf : f (8 * j + k) = true
    · rw [if_pos hf, Nat.add_comm]
      by_cases e : i = k
      · subst e
        rw [Nat.testBit_two_pow_add_eq, Nat.testBit_lt_two_pow hlt, hf]; rfl
      · rw [Nat.testBit_two_pow_add_gt (by omega)]
        exact ih (by omega)
    · rw [if_neg hf, Nat.add_zero]
      by_cases e : i = k
      · subst e
        rw [Nat.testBit_lt_two_pow hlt]
        simpa using hf
      · exact ih (by omega)
theorem pk_bit (f : Nat → Bool) (j i : Nat) (h : i < 8) : (pk f j).testBit i = f (8 * j + i) := pkTo_bit f j 8 i h
theorem pk_bit_out (f : Nat → Bool) (j i : Nat) (h : 8 ≤ i) : (pk f j).testBit i = false :=
  Nat.testBit_lt_two_pow (Nat.lt_of_lt_of_le (pk_lt f j) (Nat.pow_le_pow_right (n := 2) (by omega) h))
theorem pk_of (f : Nat → Bool) (j n : Nat) (hn : n < 256) (h : ∀ i, i < 8 → n.testBit i = f (8 * j + i)) : n = pk f j := by
  refine Nat.eq_of_testBit_eq fun i => ?_
  by_cases hi : i < 8
  · rw [h i hi, pk_bit f j i hi]
  · rw [pk_bit_out f j i (by omega)]
    exact Nat.testBit_lt_two_pow (Nat.lt_of_lt_of_le hn (Nat.pow_le_pow_right (n := 2) (by omega) (show 8 ≤ i by omega)))
theorem pk_congr {f g : Nat → Bool} {j : Nat} (h : ∀ i, i < 8 → f (8 * j + i) = g (8 * j + i)) : pk f j = pk g j :=
  pk_of g j _ (pk_lt f j) fun i hi => by rw [pk_bit f j i hi, h i hi]
def flip (f : Nat → Bool) (p : Nat) : Nat → Bool := fun q => if q = p then !f q else f q
theorem flip_flip (f : Nat → Bool) (p : Nat) : flip (flip f p) p = f := by
  funext q; unfold flip; split <;> simp
theorem flip_same (f : Nat → Bool) (p : Nat) : flip f p p = !f p := by simp [flip]
theorem flip_other (f : Nat → Bool) {p q : Nat} (h : q ≠ p) : flip f p q = f q := by simp [flip, h]
theorem pk_flip (f : Nat → Bool) (p : Nat) : pk f (p / 8) ^^^ 2 ^ (p % 8) = pk (flip f p) (p / 8) := by
  have h2 : 2 ^ (p % 8) < 256 := Nat.lt_of_lt_of_le (Nat.pow_lt_pow_right (by omega) (show p % 8 < 8 by omega)) (by decide)
  refine pk_of _ _ _ (Nat.xor_lt_two_pow (n := 8) (pk_lt f _) h2) fun i hi => ?_
  rw [Nat.testBit_xor, pk_bit f _ i hi, Nat.testBit_two_pow]
  by_cases e : p % 8 = i
  · have : 8 * (p / 8) + i = p := by omega
    rw [this, flip_same, decide_eq_true e]; simp
  · have : 8 * (p / 8) + i ≠ p := by omega
    rw [flip_other _ this, decide_eq_false e]; simp
theorem pk_flip_other (f : Nat → Bool) (p j : Nat) (h : j ≠ p / 8) : pk (flip f p) j = pk f j :=
  pk_congr fun i hi => flip_other _ (by omega)
def stc (t : Sta) (j : Nat) : Value := if j = 0 then .int .i64 (t.root : Int) else .int .u8 (pk t.has (j - 1) : Int)
def StaAt (w : World) (b o : Nat) (t : Sta) : Prop := ∀ j, j < 513 → w.cell? ⟨b, o + j, none⟩ = some (stc t j)
theorem StaAt.root {w : World} {b o : Nat} {t : Sta} (h : StaAt w b o t) : w.cell? ⟨b, o, none⟩ = some (.int .i64 (t.root : Int)) := h 0 (by omega)
theorem StaAt.byte {w : World} {b o : Nat} {t : Sta} (h : StaAt w b o t) (j : Nat) (hj : j < 512) : w.cell? ⟨b, o + 1 + j, none⟩ = some (.int .u8 (pk t.has j : Int)) := by
  have := h (j + 1) (by omega)
  rw [show o + (j + 1) = o + 1 + j by omega] at this
  rw [this]; simp [stc]
theorem StaAt.keep {w w' : World} {b o : Nat} {t : Sta} (h : StaAt w b o t) (e : w'.heap[b]? = w.heap[b]?) : StaAt w' b o t := fun j hj => (World.cell?_of_block (w := w) e).trans (h j hj)
def Sta.hasI (t : Sta) (p : Int) : Bool := decide (0 ≤ p ∧ p < 4096) && t.has p.toNat
theorem hasI_nat (t : Sta) (p : Nat) (h : p < 4096) : t.hasI (p : Int) = t.has p := by
  have : (0 : Int) ≤ p ∧ (p : Int) < 4096 := by omega
  simp [Sta.hasI, this]
theorem bit_read (f : Nat → Bool) (n : Nat) : (bits BinOp.and IntKind.u8 ((pk f (n / 8) : Int) / 2 ^ (n % 8)) 1 == 1) = f n := by
  have e1 : ((pk f (n / 8) : Int) / 2 ^ (n % 8)) = ((pk f (n / 8) / 2 ^ (n % 8) : Nat) : Int) := by
    rw [Int.natCast_ediv, Int.natCast_pow]; rfl
  have hlt : pk f (n / 8) / 2 ^ (n % 8) < 256 := Nat.lt_of_le_of_lt (Nat.div_le_self _ _) (pk_lt f _)
  rw [e1, show (1 : Int) = ((1 : Nat) : Int) from rfl, u8_and_nat _ _ hlt (by omega), Nat.and_one_is_mod]
  have hb := pk_bit f (n / 8) (n % 8) (by omega)
  rw [show 8 * (n / 8) + n % 8 = n by omega, Nat.testBit_eq_decide_div_mod_eq] at hb
  rw [← hb, Bool.eq_iff_iff, beq_iff_eq, decide_eq_true_eq]
  omega
theorem has_any (w : World) (b o : Nat) (t : Sta) (p : Int) (h : StaAt w b o t) :
    Calls Tryz.prog 86 #[.pointer (some ⟨b, o, none⟩), .int .i64 p] w fun e w' => e = .returned (.bool (t.hasI p)) ∧ w' = w := by
  by_cases h0 : 0 ≤ p ∧ p < 4096
  · obtain ⟨n, rfl⟩ := Int.eq_ofNat_of_zero_le h0.1
    have hn : n < 4096 := by omega
    rw [hasI_nat t n hn]
    have hc := h.byte (n / 8) (by omega)
    have i1 : (0 : Int) ≤ (n : Int) := by omega
    have i2 : (n : Int) < 4096 := by omega
    have hb := Lib.hid (bit_read t.has n)
    clear h h0
    go_enter Tryz.func86, Tryz.ntmps86
    go_wp2_with fail
    go_ret
    exact ⟨by rw [hb.out]; rfl, rfl⟩
  · have e : t.hasI p = false := by unfold Sta.hasI; rw [decide_eq_false h0]; rfl
    rw [e]
    clear e h
    by_cases h1 : 0 ≤ p
    · have h2 : ¬ p < 4096 := by omega
      go_enter Tryz.func86, Tryz.ntmps86
      go_wp2_with fail
      go_ret
      exact ⟨rfl, rfl⟩
    · go_enter Tryz.func86, Tryz.ntmps86
      go_wp2_with fail
      go_ret
      exact ⟨rfl, rfl⟩
def Sta.turn (t : Sta) (p : Nat) : Sta := { t with has := flip t.has p }
theorem StaAt.turn {w : World} {b o : Nat} {t : Sta} (h : StaAt w b o t) (p : Nat) (hp : p < 4096) : StaAt (w.setCell ⟨b, o + 1 + p / 8, none⟩ (.int .u8 (pk (flip t.has p) (p / 8) : Int))) b o (t.turn p)  := fun j hj => by
  by_cases e : j = 1 + p / 8
  · subst e
    rw [show o + (1 + p / 8) = o + 1 + p / 8 by omega, World.cell?_setCell_same _ _ _ (h.byte (p / 8) (by omega))]
    simp [stc, Sta.turn]
  · rw [World.cell?_setCell_other _ _ _ _ (by intro e2; injection e2 with _ e3; omega)]
    rw [h j hj]
    unfold stc Sta.turn
    split
    · rfl
    · rw [pk_flip_other _ _ _ (by omega)]
theorem turn_any (w : World) (b o : Nat) (t : Sta) (p : Nat) (hp : p < 4096) (h : StaAt w b o t) (hf : w.frozen? ⟨b, o + 1 + p / 8, none⟩ = false) :
    Calls Tryz.prog 163 #[.pointer (some ⟨b, o, none⟩), .int .i64 p] w fun e w' => e = .returned (.tuple #[]) ∧ w' = (w.setCell ⟨b, o + 1 + p / 8, none⟩ (.int .u8 (pk (flip t.has p) (p / 8) : Int))).drew := by
  have hc := h.byte (p / 8) (by omega)
  have hv : bits BinOp.xor IntKind.u8 (pk t.has (p / 8) : Int) ((2 : Int) ^ (p % 8) % 256) = (pk (flip t.has p) (p / 8) : Int) := by
    have h2 : 2 ^ (p % 8) < 256 := Nat.lt_of_lt_of_le (Nat.pow_lt_pow_right (by omega) (show p % 8 < 8 by omega)) (by decide)
    have e : (2 : Int) ^ (p % 8) % 256 = ((2 ^ (p % 8) : Nat) : Int) := by
      rw [show (2 : Int) ^ (p % 8) = ((2 ^ (p % 8) : Nat) : Int) by rw [Int.natCast_pow]; rfl]
      generalize 2 ^ (p % 8) = q at h2 ⊢
      omega
    rw [e, u8_xor_nat _ _ (pk_lt _ _) h2, pk_flip]
  have HV := Lib.hid hv
  clear hv
  have hw : IntKind.i64.wrap ((p : Int) / 8) = (p : Int) / 8 := by rw [IntKind.wrap_i64]; omega
  have hm : (p : Int).tmod 8 = (p : Int) % 8 := Int.tmod_eq_emod_of_nonneg (by omega)
  have j1 : (0 : Int) ≤ (p : Int) / 8 := by omega
  have j2 : (p : Int) / 8 < 512 := by omega
  have j3 : ((p : Int) / 8).toNat = p / 8 := by omega
  have j4 : (0 : Int) ≤ (p : Int) % 8 := by omega
  have j5 : ((p : Int) % 8).toNat = p % 8 := by omega
  clear h
  go_enter Tryz.func163, Tryz.ntmps163
  go_wp2_with fail
  go_still_tail 14, (by kernel_rfl)
  change wpList _ _ _ _ _ w.drew
  go_wp2
  rw [HV.out]
  first | go_end0 | (simp only [Exit.inBlock, Exit.then]; refine bodyPost_ret (results_none rfl _ _ _) rfl ?_) | refine bodyPost_ret (results_none rfl _ _ _) rfl ?_
  exact ⟨rfl, rfl⟩
abbrev Pages := Nat → Option (List UInt8)
def Pages.put (f : Pages) (p : Nat) (o : Option (List UInt8)) : Pages := fun q => if q = p then o else f q
theorem put_same (f : Pages) (p : Nat) (o : Option (List UInt8)) : f.put p o p = o := by simp [Pages.put]
theorem put_other (f : Pages) {p q : Nat} (o : Option (List UInt8)) (h : q ≠ p) : f.put p o q = f q := by simp [Pages.put, h]
theorem put_back (f : Pages) (p : Nat) (o : Option (List UInt8)) : (f.put p o).put p (f p) = f := by
  funext q; unfold Pages.put; split
  · rename_i h; rw [h]
  · rfl
structure Vw where
  now : Sta
  fresh : Pages
inductive Un where
  | drop (p : Nat)
  | give (p : Nat) (o : Option (List UInt8))
  | root (r : Nat)
def Un.app (v : Vw) : Un → Vw
  | .drop p => ⟨v.now.turn p, v.fresh.put p none⟩
  | .give p (some l) => ⟨v.now.turn p, v.fresh.put p (some l)⟩
  | .give p none => ⟨v.now.turn p, v.fresh⟩
  | .root r => ⟨{ v.now with root := r }, v.fresh⟩
structure Sto where
  n : Nat
  cur : Vw
  kept : Sta
  changed : Bool
  marks : List (Nat × Bool)
  us : List (Un × Vw)
  inForce : Nat
  stamp : Nat
  dead : Bool
def Vw.base (t : Sta) : Vw := ⟨t, fun _ => none⟩
def Sto.begin (s : Sto) (t : Sta) : Sto := { s with cur := Vw.base t, kept := t, changed := false, marks := [], us := [] }
def Sto.view (s : Sto) (k : Nat) : Vw := match s.us[k]? with
  | some x => x.2
  | none => s.cur
def Sto.did (s : Sto) (u : Un) (v : Vw) : Sto := { s with cur := v, changed := true, us := if s.marks = [] then s.us else s.us ++ [(u, s.cur)] }
def Sto.free (s : Sto) (p : Nat) : Bool := !s.cur.now.has p && !s.kept.has p
def Sto.hold (s : Sto) (p : Nat) (l : List UInt8) : Vw := ⟨s.cur.now.turn p, s.cur.fresh.put p (some l)⟩
def Sto.drop (s : Sto) (p : Nat) : Vw := ⟨s.cur.now.turn p, s.cur.fresh.put p none⟩
def Sto.take (s : Sto) (p : Nat) (l : List UInt8) : Sto := s.did (.drop p) (s.hold p l)
def Sto.give (s : Sto) (p : Nat) : Sto := s.did (.give p (s.cur.fresh p)) (s.drop p)
def Sto.setRoot (s : Sto) (p : Nat) : Sto := s.did (.root s.cur.now.root) ⟨{ s.cur.now with root := p }, s.cur.fresh⟩
def Sto.mark (s : Sto) : Sto := { s with marks := s.marks ++ [(s.us.length, s.changed)] }
def Sto.back (s : Sto) (m : Nat) : Sto := match s.marks[m]? with
  | some x => { s with cur := s.view x.1, us := s.us.take x.1, marks := s.marks.take (m + 1), changed := x.2 }
  | none => s
structure VwOk (n : Nat) (k : Sta) (v : Vw) : Prop where
  has : ∀ p, v.now.has p = true → 2 ≤ p ∧ p < n
  root : v.now.root = 0 ∨ v.now.has v.now.root = true
  fresh : ∀ p, v.fresh p ≠ none ↔ v.now.has p = true ∧ k.has p = false
  len : ∀ p l, v.fresh p = some l → l.length ≤ 4011
structure StaOk (n : Nat) (t : Sta) : Prop where
  has : ∀ p, t.has p = true → 2 ≤ p ∧ p < n
  root : t.root = 0 ∨ t.has t.root = true
theorem base_ok {n : Nat} {t : Sta} (h : StaOk n t) : VwOk n t (Vw.base t) :=
  ⟨h.has, h.root, fun p => by simp [Vw.base], fun p l e => by simp [Vw.base] at e⟩
theorem VwOk.sta {n : Nat} {k : Sta} {v : Vw} (h : VwOk n k v) : StaOk n v.now := ⟨h.has, h.root⟩
structure SGood (s : Sto) : Prop where
  n4 : 4 ≤ s.n
  n5 : s.n ≤ 4096
  kept : StaOk s.n s.kept
  view : ∀ k, VwOk s.n s.kept (s.view k)
  chain : ∀ (k : Nat) (x : Un × Vw), s.us[k]? = some x → x.1.app (s.view (k + 1)) = x.2
  mark : ∀ (i : Nat) (x : Nat × Bool), s.marks[i]? = some x → x.1 ≤ s.us.length
  mono : ∀ (i j : Nat) (x y : Nat × Bool), i ≤ j → s.marks[i]? = some x → s.marks[j]? = some y → x.1 ≤ y.1
  none : s.marks = [] → s.us = []
  same : s.changed = false → s.cur = Vw.base s.kept
  markSame : ∀ (i : Nat) (x : Nat × Bool), s.marks[i]? = some x → x.2 = false → s.view x.1 = Vw.base s.kept
  force : s.inForce < 2
  stamp : s.stamp < 18446744073709551616
theorem view_len (s : Sto) : s.view s.us.length = s.cur := by
  unfold Sto.view; rw [List.getElem?_eq_none (Nat.le_refl _)]
theorem SGood.cur {s : Sto} (h : SGood s) : VwOk s.n s.kept s.cur := view_len s ▸ h.view s.us.length
theorem did_view (s : Sto) (u : Un) (v : Vw) (hm : s.marks ≠ []) (k : Nat) : (s.did u v).view k = if k ≤ s.us.length then s.view k else v := by
  unfold Sto.view Sto.did
  simp only [if_neg hm]
  rcases Nat.lt_trichotomy k s.us.length with h | h | h
  · rw [if_pos (by omega), List.getElem?_append_left h]
    rw [List.getElem?_eq_getElem h]
  · subst h
    rw [if_pos (Nat.le_refl _), List.getElem?_append_right (Nat.le_refl _), Nat.sub_self, List.getElem?_eq_none (Nat.le_refl _)]
    rfl
  · rw [if_neg (by omega), List.getElem?_eq_none (by simp; omega)]
theorem did_good {s : Sto} (h : SGood s) (u : Un) (v : Vw) (hv : VwOk s.n s.kept v) (hu : u.app v = s.cur) : SGood (s.did u v) := by
  by_cases hm : s.marks = []
  · have hus := h.none hm
    have hvw : ∀ k, (s.did u v).view k = v := fun k => by unfold Sto.view Sto.did; simp [hm, hus]
    have e : (s.did u v).us = [] := by simp [Sto.did, hm, hus]
    have em : (s.did u v).marks = [] := hm
    exact { n4 := h.n4, n5 := h.n5, kept := h.kept, force := h.force, stamp := h.stamp
            view := fun k => by rw [hvw k]; exact hv
            chain := fun k x hx => by rw [e] at hx; simp at hx
            mark := fun i x hx => by rw [em] at hx; simp at hx
            mono := fun i j x y _ hx => by rw [em] at hx; simp at hx
            none := fun _ => e
            same := fun hc => by cases hc
            markSame := fun i x hx => by rw [em] at hx; simp at hx }
  · have hvw := did_view s u v hm
    have e : (s.did u v).us = s.us ++ [(u, s.cur)] := if_neg hm
    have em : (s.did u v).marks = s.marks := rfl
    exact { n4 := h.n4, n5 := h.n5, kept := h.kept, force := h.force, stamp := h.stamp
            view := fun k => by
              rw [hvw k]; split
              · exact h.view k
              · exact hv
            chain := fun k x hx => by
              rw [e] at hx
              rw [hvw (k + 1)]
              by_cases hk : k < s.us.length
              · rw [List.getElem?_append_left hk] at hx
                rw [if_pos (by omega)]
                exact h.chain k x hx
              · have hk2 : k = s.us.length := by
                  have := (List.getElem?_eq_some_iff.1 hx).1
                  simp at this; omega
                subst hk2
                rw [List.getElem?_append_right (Nat.le_refl _), Nat.sub_self] at hx
                injection hx with hx
                subst hx
                rw [if_neg (by omega)]
                exact hu
            mark := fun i x hx => by
              have := h.mark i x hx
              rw [e, List.length_append]; simp; omega
            mono := h.mono
            none := fun e2 => absurd e2 hm
            same := fun hc => by cases hc
            markSame := fun i x hx hx2 => by
              rw [hvw, if_pos (h.mark i x hx)]
              exact h.markSame i x hx hx2 }
theorem begin_good {s : Sto} (h : SGood s) (t : Sta) (ht : StaOk s.n t) : SGood (s.begin t) :=
  { n4 := h.n4, n5 := h.n5, kept := ht, force := h.force, stamp := h.stamp
    view := fun k => base_ok ht
    chain := fun k x hx => by simp [Sto.begin] at hx
    mark := fun i x hx => by simp [Sto.begin] at hx
    mono := fun i j x y _ hx => by simp [Sto.begin] at hx
    none := fun _ => rfl
    same := fun _ => rfl
    markSame := fun i x hx => by simp [Sto.begin] at hx }
theorem turn_turn (t : Sta) (p : Nat) : (t.turn p).turn p = t := by
  cases t; simp [Sta.turn, flip_flip]
theorem take_good {s : Sto} (h : SGood s) {p : Nat} (h2 : 2 ≤ p) (hp : p < s.n) (hf : s.free p = true) (l : List UInt8) (hl : l.length ≤ 4011) : SGood (s.take p l) := by
  simp only [Sto.free, Bool.and_eq_true, Bool.not_eq_true'] at hf
  have hc := h.cur
  have hno : s.cur.fresh p = none := by
    rcases hq : s.cur.fresh p with _ | l'
    · rfl
    · have := ((hc.fresh p).1 (by rw [hq]; simp)).1
      rw [hf.1] at this; cases this
  refine did_good h _ _ ⟨?_, ?_, ?_, ?_⟩ ?_
  · intro q hq
    by_cases e : q = p
    · subst e; exact ⟨h2, hp⟩
    · exact hc.has q (by simpa [Sto.hold, Sta.turn, flip_other _ e] using hq)
  · rcases hc.root with hr | hr
    · exact .inl hr
    · refine .inr ?_
      have e : s.cur.now.root ≠ p := fun e => by rw [e, hf.1] at hr; cases hr
      simpa [Sto.hold, Sta.turn, flip_other _ e] using hr
  · intro q
    by_cases e : q = p
    · subst e
      simp [Sto.hold, put_same, Sta.turn, flip_same, hf]
    · have := hc.fresh q
      simpa [Sto.hold, put_other _ _ e, Sta.turn, flip_other _ e] using this
  · intro q l' hq
    by_cases e : q = p
    · subst e
      simp only [Sto.hold, put_same, Option.some.injEq] at hq
      rw [← hq]; exact hl
    · exact hc.len q l' (by simpa [Sto.hold, put_other _ _ e] using hq)
  · show (⟨(s.cur.now.turn p).turn p, (s.cur.fresh.put p (some l)).put p none⟩ : Vw) = s.cur
    rw [turn_turn, ← hno, put_back]
theorem give_good {s : Sto} (h : SGood s) {p : Nat} (hp : s.cur.now.has p = true) (hr : p ≠ s.cur.now.root) : SGood (s.give p) := by
  have hc := h.cur
  refine did_good h _ _ ⟨?_, ?_, ?_, ?_⟩ ?_
  · intro q hq
    by_cases e : q = p
    · subst e; exact hc.has q hp
    · exact hc.has q (by simpa [Sto.drop, Sta.turn, flip_other _ e] using hq)
  · rcases hc.root with hr' | hr'
    · exact .inl hr'
    · refine .inr ?_
      have e : s.cur.now.root ≠ p := fun e => hr e.symm
      simpa [Sto.drop, Sta.turn, flip_other _ e] using hr'
  · intro q
    by_cases e : q = p
    · subst e
      simp [Sto.drop, put_same, Sta.turn, flip_same, hp]
    · have := hc.fresh q
      simpa [Sto.drop, put_other _ _ e, Sta.turn, flip_other _ e] using this
  · intro q l' hq
    by_cases e : q = p
    · subst e
      simp [Sto.drop, put_same] at hq
    · exact hc.len q l' (by simpa [Sto.drop, put_other _ _ e] using hq)
  · rcases hf : s.cur.fresh p with _ | l
    · show (⟨(s.cur.now.turn p).turn p, s.cur.fresh.put p none⟩ : Vw) = s.cur
      have : s.cur.fresh.put p none = s.cur.fresh := by
        funext q; unfold Pages.put; split
        · rename_i e; rw [e, hf]
        · rfl
      rw [turn_turn, this]
    · show (⟨(s.cur.now.turn p).turn p, (s.cur.fresh.put p none).put p (some l)⟩ : Vw) = s.cur
      rw [turn_turn, ← hf, put_back]
theorem setRoot_good {s : Sto} (h : SGood s) {p : Nat} (hp : p = 0 ∨ s.cur.now.has p = true) : SGood (s.setRoot p) := by
  have hc := h.cur
  exact did_good h _ _ ⟨hc.has, hp, hc.fresh, hc.len⟩ rfl
end Go.Proofs.YtcjokkjepgfinaaGreatDoor.Sk
namespace Go.Proofs.YtcjokkjepgfinaaGreatDoor.Sk
set_option maxRecDepth 8000
open Go.RowKit Mem Go.ChangeMaps
open Dk (cod elem cod_inj elem_mk elem_inv key key_inj wf_key keyed3 MapIs Fr ptr)
def MapN (w : World) (b m : Nat) (V : Nat → Option Value) : Prop :=
  ∃ D zd, cod (.slice none 0 0) = some zd ∧ w.ownsMap Tryz.prog 3 elem b m D ∧ (∀ k : Nat, k < 4611686018427387904 → Maps.has D (key k) = (V k).isSome ∧ cod ((V k).getD (.slice none 0 0)) = some (D.atKey (key k) zd)) ∧ ∀ x : Int, Maps.has D (.int .i64 x) = true → 0 ≤ x ∧ x < 4096
section
variable {w : World} {b m : Nat} {V : Nat → Option Value}
theorem MapN.is (h : MapN w b m V) : MapIs w b m (.slice none 0 0) V := by obtain ⟨D, zd, h1, h2, h3, _⟩ := h; exact ⟨D, zd, h1, h2, h3⟩
theorem MapN.made (w : World) : MapN (w.alloc (.map #[] 0)) w.heap.size 0 (fun _ => none) :=
  ⟨.map [], _, rfl, World.ownsMap_made w Tryz.prog 3 elem, fun k _ => ⟨rfl, rfl⟩, fun x hx => by cases hx⟩
theorem MapN.lt (h : MapN w b m V) : b < w.heap.size := h.is.lt
theorem MapN.mono (h : MapN w b m V) {m' : Nat} (hm : m ≤ m') : MapN w b m' V := by obtain ⟨D, zd, hz, ho, hv⟩ := h; exact ⟨D, zd, hz, ho.mono hm, hv⟩
theorem MapN.of_block {w' : World} (h : MapN w b m V) (e : w'.heap[b]? = w.heap[b]?) : MapN w' b m V := by
  obtain ⟨D, zd, hz, ⟨es, cl, hb, r⟩, hv⟩ := h
  exact ⟨D, zd, hz, ⟨es, cl, e.trans hb, r⟩, hv⟩
theorem lit_ne {x : Int} {k : Nat} (h : x ≠ (k : Int)) : Lit.int .i64 x ≠ key k := by intro e; injection e with _ e2; exact h e2
theorem MapN.store (h : MapN w b m V) (hm : m < maxLen) (k : Nat) (hk : k < 4096) (v : Value) {z : DataW Unit} (hv : cod v = some z) :
    ∃ w', (Instr.mapUpdate 93 (.map (some b)) (.int .i64 k) v).run Tryz.prog w = .ok () w' ∧ MapN w' b (m + 1) (fun j => if j = k then some v else V j) ∧ w.mapTurned w' b := by
  obtain ⟨D, zd, hzd, ho, hV, hB⟩ := h
  have hkey := Maps.keyOf_int_mk Tryz.underlying3 (wf_key k (by omega))
  obtain ⟨w', hrun, ho', hg⟩ := ho.store keyed3 Tryz.underlying93 hm hkey (elem_mk hv)
  have hI := ho.isMap
  refine ⟨w', hrun, ⟨_, zd, hzd, ho', fun j hj => ?_, fun x hx => ?_⟩, hg⟩
  · by_cases e : j = k
    · subst e
      show Maps.has _ _ = (if j = j then some v else V j).isSome ∧ cod ((if j = j then some v else V j).getD _) = _
      rw [if_pos rfl, Maps.has_put_same hI (keyed3.key hkey), Maps.atKey_put_same hI (keyed3.key hkey)]
      exact ⟨rfl, hv⟩
    · show Maps.has _ _ = (if j = k then some v else V j).isSome ∧ cod ((if j = k then some v else V j).getD _) = _
      rw [if_neg e, Maps.has_put_other (key_inj e), Maps.atKey_put_other (key_inj e)]
      exact hV j hj
  · by_cases e : x = (k : Int)
    · omega
    · rw [Maps.has_put_other (lit_ne e)] at hx
      exact hB x hx
theorem MapN.drop (h : MapN w b m V) (k : Nat) (hk : k < 4096) (ty : TypeId) :
    ∃ w', (Builtin.delete_ #[93, 3] ty #[.map (some b), .int .i64 k]).run Tryz.prog w = .ok (.tuple #[]) w' ∧ MapN w' b m (fun j => if j = k then none else V j) ∧ w.mapTurned w' b := by
  obtain ⟨D, zd, hzd, ho, hV, hB⟩ := h
  have hkey := Maps.keyOf_int_mk Tryz.underlying3 (wf_key k (by omega))
  obtain ⟨w', hrun, ho', hg⟩ := ho.drop keyed3 Tryz.underlying93 hkey ty
  refine ⟨w', hrun, ⟨_, zd, hzd, ho', fun j hj => ?_, fun x hx => ?_⟩, hg⟩
  · by_cases e : j = k
    · subst e
      show Maps.has _ _ = (if j = j then none else V j).isSome ∧ cod ((if j = j then none else V j).getD _) = _
      rw [if_pos rfl, Maps.has_del_same, Maps.atKey_del_same]
      exact ⟨rfl, hzd⟩
    · show Maps.has _ _ = (if j = k then none else V j).isSome ∧ cod ((if j = k then none else V j).getD _) = _
      rw [if_neg e, Maps.has_del_other (key_inj e), Maps.atKey_del_other (key_inj e)]
      exact hV j hj
  · by_cases e : x = (k : Int)
    · omega
    · rw [Maps.has_del_other (lit_ne e)] at hx
      exact hB x hx
end
inductive SRole where
  | store | fresh | undo | marks | const
structure SLay where
  fm : Nat
  m : Nat
  V : Nat → Option Value
  mv : Value
  uv : Value
  U : List Value
  role : Nat → Option SRole
def SLay.foot (y : SLay) (k : Nat) : Prop := y.role k ≠ none
def mcs : List (Nat × Bool) → List Value
  | [] => []
  | x :: l => .int .i64 (x.1 : Int) :: .bool x.2 :: mcs l
def scell (y : SLay) (db : Nat) (s : Sto) (i : Nat) : Value :=
  if i < 513 then stc s.cur.now i else if i < 1026 then stc s.kept (i - 513) else
  if i = 1026 then .map (some y.fm) else if i = 1027 then .bool s.changed else if i = 1028 then y.mv else if i = 1029 then y.uv else
  if i = 1030 then ptr db else if i = 1031 then .int .i64 (s.inForce : Int) else if i = 1032 then .int .u64 (s.stamp : Int) else .bool s.dead
def Box (w : World) (role : Nat → Option SRole) (k : Nat) (u : Value) : Prop := role k = some .const ∧ w.cell? ⟨k, 0, none⟩ = some u
def SlAt (w : World) (role : Nat → Option SRole) (v : Value) (l : List UInt8) : Prop := Mem.Own 5 w 0 v l ∧ ∀ k, v.ownBlock = some k → role k = some .const
def FreshAt (w : World) (role : Nat → Option SRole) : Option Value → Option (List UInt8) → Prop
  | none, none => True
  | some v, some l => SlAt w role v l
  | _, _ => False
abbrev pt (k : Nat) : Value := .pointer (some ⟨k, 0, none⟩)
def UnAt (w : World) (role : Nat → Option SRole) (sb : Nat) (v : Value) : Un → Prop
  | .drop p => ∃ c q, v = .func (.func 183) #[] #[pt c, pt q] ∧ Box w role c (pt sb) ∧ Box w role q (.int .i64 (p : Int)) ∧ p < 4096
  | .give p o => ∃ f c q b sv, v = .func (.func 161) #[] #[pt f, pt c, pt q, pt b] ∧ Box w role f (.bool o.isSome) ∧ Box w role c (pt sb) ∧ Box w role q (.int .i64 (p : Int)) ∧ Box w role b sv ∧ (∀ l, o = some l → SlAt w role sv l) ∧ p < 4096
  | .root r => ∃ x c, v = .func (.func 156) #[] #[pt x, pt c] ∧ Box w role x (.int .i64 (r : Int)) ∧ Box w role c (pt sb)
structure IsS (w : World) (sb : Nat) (y : SLay) (db : Nat) (s : Sto) : Prop where
  row : w.rowIs sb 100 1034 (scell y db s)
  map : MapN w y.fm y.m y.V
  freshOk : ∀ p, p < 4096 → FreshAt w y.role (y.V p) (s.cur.fresh p)
  marksOk : w.ownsRow 0 237 2 y.mv s.marks.length (mcs s.marks)
  undoOk : w.ownsRow 0 1 1 y.uv s.us.length y.U
  unAt : ∀ (i : Nat) (v : Value) (x : Un × Vw), y.U[i]? = some v → s.us[i]? = some x → UnAt w y.role sb v x.1
  rs : y.role sb = some .store
  rf : y.role y.fm = some .fresh
  rm : ∀ k, y.mv.ownBlock = some k → y.role k = some .marks
  ru : ∀ k, y.uv.ownBlock = some k → y.role k = some .undo
  foot : ∀ k, y.foot k → k < w.heap.size
  usLen : s.us.length ≤ y.m
  msLen : s.marks.length ≤ y.m
theorem SlAt.of_block {w w' : World} {role : Nat → Option SRole} {v : Value} {l : List UInt8} (h : SlAt w role v l) (hk : ∀ k, role k = some .const → w'.heap[k]? = w.heap[k]?) : SlAt w' role v l :=
  ⟨Dk.Own.of_block h.1 fun k e => hk k (h.2 k e), h.2⟩
theorem FreshAt.of_block {w w' : World} {role : Nat → Option SRole} {x : Option Value} {o : Option (List UInt8)} (h : FreshAt w role x o) (hk : ∀ k, role k = some .const → w'.heap[k]? = w.heap[k]?) : FreshAt w' role x o := by
  rcases x with _ | v <;> rcases o with _ | l
  · trivial
  · exact h
  · exact h
  · exact SlAt.of_block h hk
theorem Box.of_block {w w' : World} {role : Nat → Option SRole} {k : Nat} {u : Value} (h : Box w role k u) (hk : ∀ k, role k = some .const → w'.heap[k]? = w.heap[k]?) : Box w' role k u :=
  ⟨h.1, (World.cell?_of_block (w := w) (hk k h.1)).trans h.2⟩
theorem UnAt.of_block {w w' : World} {role : Nat → Option SRole} {sb : Nat} {v : Value} {u : Un} (h : UnAt w role sb v u) (hk : ∀ k, role k = some .const → w'.heap[k]? = w.heap[k]?) : UnAt w' role sb v u := by
  cases u with
  | drop p =>
    obtain ⟨c, q, e, h1, h2, h3⟩ := h
    exact ⟨c, q, e, h1.of_block hk, h2.of_block hk, h3⟩
  | give p o =>
    obtain ⟨f, c, q, b, sv, e, h1, h2, h3, h4, h5, h6⟩ := h
    exact ⟨f, c, q, b, sv, e, h1.of_block hk, h2.of_block hk, h3.of_block hk, h4.of_block hk, fun l e => (h5 l e).of_block hk, h6⟩
  | root r =>
    obtain ⟨x, c, e, h1, h2⟩ := h
    exact ⟨x, c, e, h1.of_block hk, h2.of_block hk⟩
theorem SlAt.more {w : World} {role role' : Nat → Option SRole} {v : Value} {l : List UInt8} (h : SlAt w role v l) (hr : ∀ k, role k = some .const → role' k = some .const) : SlAt w role' v l := ⟨h.1, fun k e => hr k (h.2 k e)⟩
theorem FreshAt.more {w : World} {role role' : Nat → Option SRole} {x : Option Value} {o : Option (List UInt8)} (h : FreshAt w role x o) (hr : ∀ k, role k = some .const → role' k = some .const) : FreshAt w role' x o := by
  rcases x with _ | v <;> rcases o with _ | l
  · trivial
  · exact h
  · exact h
  · exact SlAt.more h hr
theorem Box.more {w : World} {role role' : Nat → Option SRole} {k : Nat} {u : Value} (h : Box w role k u) (hr : ∀ k, role k = some .const → role' k = some .const) : Box w role' k u := ⟨hr k h.1, h.2⟩
theorem UnAt.more {w : World} {role role' : Nat → Option SRole} {sb : Nat} {v : Value} {u : Un} (h : UnAt w role sb v u) (hr : ∀ k, role k = some .const → role' k = some .const) : UnAt w role' sb v u := by
  cases u with
  | drop p =>
    obtain ⟨c, q, e, h1, h2, h3⟩ := h
    exact ⟨c, q, e, h1.more hr, h2.more hr, h3⟩
  | give p o =>
    obtain ⟨f, c, q, b, sv, e, h1, h2, h3, h4, h5, h6⟩ := h
    exact ⟨f, c, q, b, sv, e, h1.more hr, h2.more hr, h3.more hr, h4.more hr, fun l e => (h5 l e).more hr, h6⟩
  | root r =>
    obtain ⟨x, c, e, h1, h2⟩ := h
    exact ⟨x, c, e, h1.more hr, h2.more hr⟩
section
variable {w w' : World} {sb db : Nat} {y : SLay} {s : Sto}
theorem IsS.keep (h : IsS w sb y db s) (hs : w.heap.size ≤ w'.heap.size) (hk : ∀ k, y.foot k → w'.heap[k]? = w.heap[k]?) : IsS w' sb y db s :=
  have hf : ∀ {k r}, y.role k = some r → w'.heap[k]? = w.heap[k]? := fun e => hk _ (by simp [SLay.foot, e])
  { h with
    row := h.row.of_block (hf h.rs), map := h.map.of_block (hf h.rf)
    freshOk := fun p hp => (h.freshOk p hp).of_block fun k e => hf e
    marksOk := Dk.owns_of_block h.marksOk fun k e => hf (h.rm k e)
    undoOk := Dk.owns_of_block h.undoOk fun k e => hf (h.ru k e)
    unAt := fun i v x h1 h2 => (h.unAt i v x h1 h2).of_block fun k e => hf e
    foot := fun k e => Nat.lt_of_lt_of_le (h.foot k e) hs }
theorem IsS.fr {F : Nat → Prop} (h : IsS w sb y db s) (hf : Fr F w w') (hF : ∀ k, y.foot k → ¬ F k) : IsS w' sb y db s := h.keep hf.size fun k hk => hf.block k (h.foot k hk) (hF k hk)
theorem IsS.below (h : IsS w sb y db s) (hb : Below w.heap.size w w') : IsS w' sb y db s := h.keep hb.size fun k hk => hb.block k (h.foot k hk)
theorem IsS.alloc (h : IsS w sb y db s) (o : Obj) : IsS (w.alloc o) sb y db s := h.keep (by simp) fun k hk => Below.heap_alloc _ _ _ (h.foot k hk)
theorem IsS.drew (h : IsS w sb y db s) : IsS w.drew sb y db s := h.keep (Nat.le_refl _) fun _ _ => rfl
theorem IsS.drewN (h : IsS w sb y db s) (n : Nat) : IsS (w.drewN n) sb y db s := h.keep (by rw [show (w.drewN n).heap = w.heap from (World.drewN_alike w n).1]; exact Nat.le_refl _) fun _ _ => by rw [show (w.drewN n).heap = w.heap from (World.drewN_alike w n).1]
theorem IsS.fsb (h : IsS w sb y db s) : y.foot sb := by simp [SLay.foot, h.rs]
theorem IsS.ffm (h : IsS w sb y db s) : y.foot y.fm := by simp [SLay.foot, h.rf]
theorem IsS.now (h : IsS w sb y db s) : StaAt w sb 0 s.cur.now := fun j hj => by
  rw [Nat.zero_add, h.row.cell (by omega)]; unfold scell; rw [if_pos hj]
theorem IsS.kept (h : IsS w sb y db s) : StaAt w sb 513 s.kept := fun j hj => by
  rw [h.row.cell (by omega)]; unfold scell; rw [if_neg (by omega), if_pos (by omega)]
  congr 2; omega
theorem IsS.cfresh (h : IsS w sb y db s) : w.cell? ⟨sb, 1026, none⟩ = some (.map (some y.fm)) := h.row.cell (by omega)
theorem IsS.cchanged (h : IsS w sb y db s) : w.cell? ⟨sb, 1027, none⟩ = some (.bool s.changed) := h.row.cell (by omega)
theorem IsS.cmarks (h : IsS w sb y db s) : w.cell? ⟨sb, 1028, none⟩ = some y.mv := h.row.cell (by omega)
theorem IsS.cundo (h : IsS w sb y db s) : w.cell? ⟨sb, 1029, none⟩ = some y.uv := h.row.cell (by omega)
theorem IsS.cdisk (h : IsS w sb y db s) : w.cell? ⟨sb, 1030, none⟩ = some (ptr db) := h.row.cell (by omega)
theorem IsS.cdead (h : IsS w sb y db s) : w.cell? ⟨sb, 1033, none⟩ = some (.bool s.dead) := h.row.cell (by omega)
theorem IsS.croot (h : IsS w sb y db s) : w.cell? ⟨sb, 0, none⟩ = some (.int .i64 (s.cur.now.root : Int)) := h.now.root
theorem IsS.frozen (h : IsS w sb y db s) (i : Nat) : w.frozen? ⟨sb, i, none⟩ = false := h.row.frozen i
theorem IsS.ne_const (h : IsS w sb y db s) {k : Nat} (hk : y.role k = some .const) : k ≠ sb ∧ k ≠ y.fm :=
  ⟨fun e => (by rw [e, h.rs] at hk; cases hk), fun e => (by rw [e, h.rf] at hk; cases hk)⟩
theorem IsS.setRow (h : IsS w sb y db s) {w' : World} {s' : Sto} (hs : w.heap.size ≤ w'.heap.size) (hrow : w'.rowIs sb 100 1034 (scell y db s')) (hk : ∀ k, k ≠ sb → y.foot k → w'.heap[k]? = w.heap[k]?)
    (e1 : s'.cur.fresh = s.cur.fresh) (e2 : s'.marks = s.marks) (e3 : s'.us = s.us) : IsS w' sb y db s' :=
  have hf : ∀ {k r}, y.role k = some r → r ≠ .store → w'.heap[k]? = w.heap[k]? := fun e hr => hk _ (fun e2 => by rw [e2, h.rs] at e; cases e; exact hr rfl) (by simp [SLay.foot, e])
  { row := hrow, map := h.map.of_block (hf h.rf (by simp))
    freshOk := fun p hp => by rw [e1]; exact (h.freshOk p hp).of_block fun k e => hf e (by simp)
    marksOk := by rw [e2]; exact Dk.owns_of_block h.marksOk fun k e => hf (h.rm k e) (by simp)
    undoOk := by rw [e3]; exact Dk.owns_of_block h.undoOk fun k e => hf (h.ru k e) (by simp)
    unAt := fun i v x h1 h2 => by rw [e3] at h2; exact (h.unAt i v x h1 h2).of_block fun k e => hf e (by simp)
    rs := h.rs, rf := h.rf, rm := h.rm, ru := h.ru
    foot := fun k e => Nat.lt_of_lt_of_le (h.foot k e) hs
    usLen := by rw [e3]; exact h.usLen
    msLen := by rw [e2]; exact h.msLen }
end
structure Kf (F : Nat → Prop) (w w' : World) (G : Nat → Prop) : Prop where
  fr : Fr F w w'
  foot : ∀ k, k < w.heap.size → G k → F k
theorem Kf.refl (F : Nat → Prop) (w : World) : Kf F w w F := ⟨Fr.refl _ _, fun _ _ h => h⟩
theorem Kf.trans {a w w' : World} {F G H : Nat → Prop} (h : Kf F a w G) (k : Kf G w w' H) : Kf F a w' H :=
  ⟨h.fr.trans k.fr fun b hb hf => h.foot b hb hf, fun b hb hf => h.foot b hb (k.foot b (Nat.lt_of_lt_of_le hb h.fr.size) hf)⟩
theorem Kf.same {w w' : World} {F : Nat → Prop} (h : Fr F w w') : Kf F w w' F := ⟨h, fun _ _ h => h⟩
theorem Kf.free {w w' : World} {F G : Nat → Prop} (h : Kf F w w' G) {k : Nat} (hk : k < w.heap.size) (hf : ¬ F k) : ¬ G k ∧ w'.heap[k]? = w.heap[k]? := ⟨fun e => hf (h.foot k hk e), h.fr.block k hk hf⟩
theorem Kf.low {w w' : World} {F G : Nat → Prop} {B : Nat} (h : Kf F w w' G) (hB : B ≤ w.heap.size) (hy : ∀ k, F k → B ≤ k) : ∀ k, G k → B ≤ k := fun k hk => by
  rcases Nat.lt_or_ge k w.heap.size with h1 | h1
  · exact hy k (h.foot k h1 hk)
  · omega
theorem Kf.ofBelow {w w' : World} (F : Nat → Prop) (h : Below w.heap.size w w') : Kf F w w' F := Kf.same (Fr.ofBelow h)
theorem wpList_append_row {t e : TypeId} {z : Value} {size bytes : Nat} (ht : Tryz.prog.underlying t = some (.slice e)) (hi : (Tryz.prog.info? e).map (fun i => (i.zero, i.size, i.bytes)) = some (some z, size, bytes)) (hzs : z.cells.size = size) (hsz : 0 < size)
    {ops : Array Oper} {rest : List Oper} {o : Oper} {a : Act} {w : World} {Q : Exit → Act → World → Prop} (hgd : o.guard = none) (s x : Operand)
    (ho : o.op = .call { callee := .builtin .append, args := #[s, x], argTypes := #[t, t] })
    (base : Nat) (v : Value) (n : Nat) (xs : List Value) (hs : a.eval s = v) (hown : w.ownsRow base e size v n xs)
    (ad : Addr) (m c : Nat) (news : List Value) (hx : a.eval x = .slice (some ad) m c) (hl : news.length = m * size) (hnews : ∀ j u, news[j]? = some u → w.cell? (ad.add j) = some u) (h1 : ∀ u ∈ news, u.oneCell' = true)
    (h63 : n + m ≤ maxLen) (hbytes : (n + m) * bytes ≤ 140737488355328) (hbase : base ≤ w.heap.size)
    (h : ∀ v' w', w'.ownsRow base e size v' (n + m) (xs ++ news) → w.grownBy w' v.ownBlock → (v'.ownBlock = v.ownBlock ∨ v'.ownBlock = some w.heap.size) → wpList Tryz.prog ops Q rest (a.put o.dst v') w') : wpList Tryz.prog ops Q (o :: rest) a w := by
  obtain ⟨i, hi1, hz, h2, h3⟩ := info_parts hi
  obtain ⟨v', w', hrun, r1, r2, _, r3⟩ := run_append_own_at (P := Tryz.prog) w base t o.type e i z size bytes ht hi1 hz h2 h3 hzs hsz v n xs hown ad m c news hl hnews h1 h63 hbytes hbase
  refine wpList_plain hgd fun K hK => ?_
  unfold Oper.wp execOp
  simp only [ho, resolve, invoke, builtin, Sem.run_bind, Sem.run_pure, Result.andThen_ok, List.map_toArray, List.map_cons, List.map_nil, hs, hx, hrun]
  exact hK _ _ (h v' w' r1 r2 r3)
structure Ks (w : World) (y : SLay) (w' : World) (y' : SLay) : Prop where
  kf : Kf y.foot w w' y'.foot
  cs : ∀ k, y.role k = some .const → w'.heap[k]? = w.heap[k]? ∧ y'.role k = some .const
theorem Ks.refl (w : World) (y : SLay) : Ks w y w y := ⟨Kf.refl _ _, fun _ h => ⟨rfl, h⟩⟩
theorem Ks.trans {a w w' : World} {x y z : SLay} (h : Ks a x w y) (k : Ks w y w' z) : Ks a x w' z :=
  ⟨h.kf.trans k.kf, fun j hj => ⟨(k.cs j (h.cs j hj).2).1.trans (h.cs j hj).1, (k.cs j (h.cs j hj).2).2⟩⟩
theorem Ks.ofBelow {w w' : World} {sb db : Nat} {y : SLay} {s : Sto} (h : IsS w sb y db s) (hb : Below w.heap.size w w') : Ks w y w' y :=
  ⟨Kf.ofBelow _ hb, fun k hk => ⟨hb.block k (h.foot k (by simp [SLay.foot, hk])), hk⟩⟩
section
variable {w w' : World} {sb db : Nat} {y : SLay} {s : Sto}
def SLay.adopt (y : SLay) (k : Nat) : SLay := { y with role := fun j => if j = k then some .const else y.role j }
theorem adopt_const (y : SLay) (k : Nat) : (y.adopt k).role k = some .const := by simp [SLay.adopt]
theorem adopt_other (y : SLay) {j k : Nat} (h : j ≠ k) : (y.adopt k).role j = y.role j := by simp [SLay.adopt, h]
theorem adopt_foot (y : SLay) (k j : Nat) : (y.adopt k).foot j ↔ y.foot j ∨ j = k := by
  unfold SLay.foot SLay.adopt
  by_cases e : j = k <;> simp [e]
theorem IsS.adopt (h : IsS w sb y db s) {k : Nat} (hk : k < w.heap.size) (hn : y.role k = none) : IsS w sb (y.adopt k) db s :=
  have hr : ∀ {j r}, y.role j = some r → (y.adopt k).role j = some r := fun {j r} e => by rw [adopt_other y (fun e2 => by rw [e2, hn] at e; cases e)]; exact e
  { row := h.row, map := h.map, freshOk := fun p hp => (h.freshOk p hp).more fun j e => hr e, marksOk := h.marksOk, undoOk := h.undoOk
    unAt := fun i v x h1 h2 => (h.unAt i v x h1 h2).more fun j e => hr e
    rs := hr h.rs, rf := hr h.rf, rm := fun j e => hr (h.rm j e), ru := fun j e => hr (h.ru j e)
    foot := fun j e => ((adopt_foot y k j).1 e).elim (h.foot j) (fun e2 => e2 ▸ hk)
    usLen := h.usLen, msLen := h.msLen }
theorem IsS.not_foot (h : IsS w sb y db s) {k : Nat} (hk : w.heap.size ≤ k) : y.role k = none := by
  rcases hr : y.role k with _ | r
  · rfl
  · have := h.foot k (by simp [SLay.foot, hr]); omega
theorem Kf.adopt {F : Nat → Prop} (y : SLay) {k : Nat} (h : Kf F w w' y.foot) (hk : w.heap.size ≤ k) : Kf F w w' (y.adopt k).foot :=
  ⟨h.fr, fun j hj hf => ((adopt_foot y k j).1 hf).elim (h.foot j hj) (fun e2 => by omega)⟩
theorem Ks.adopt {a : World} {x : SLay} (y : SLay) {k : Nat} (h : Ks a x w y) (hk : a.heap.size ≤ k) (hn : y.role k = none) : Ks a x w (y.adopt k) :=
  ⟨h.kf.adopt y hk, fun j hj => ⟨(h.cs j hj).1, by rw [adopt_other y (fun e => by have := (h.cs j hj).2; rw [e, hn] at this; cases this)]; exact (h.cs j hj).2⟩⟩
def Sto.turn (s : Sto) (p : Nat) : Sto := { s with cur := ⟨s.cur.now.turn p, s.cur.fresh⟩ }
theorem IsS.turned (h : IsS w sb y db s) (p : Nat) (hp : p < 4096) : IsS (w.setCell ⟨sb, 0 + 1 + p / 8, none⟩ (.int .u8 (pk (flip s.cur.now.has p) (p / 8) : Int))).drew sb y db (s.turn p) := by
  refine h.setRow (by simp [World.setCell]) ?_ (fun k hk _ => Below.heap_setCell _ _ _ _ hk) rfl rfl rfl
  refine (h.row.set (0 + 1 + p / 8) _).drew.congr fun j hj => ?_
  by_cases e : j = 0 + 1 + p / 8
  · subst e
    rw [if_pos rfl]; unfold scell
    rw [if_pos (by omega)]
    unfold stc
    rw [if_neg (by omega)]
    simp [Sto.turn, Sta.turn]
  · rw [if_neg e]; unfold scell
    by_cases h1 : j < 513
    · rw [if_pos h1, if_pos h1]
      unfold stc
      split
      · rfl
      · show _ = Value.int .u8 (pk (flip s.cur.now.has p) (j - 1) : Int)
        rw [pk_flip_other _ _ _ (by omega)]
    · rw [if_neg h1, if_neg h1]
      rfl
theorem IsS.set_ks (h : IsS w sb y db s) (i : Nat) (v : Value) : Ks w y (w.setCell ⟨sb, i, none⟩ v) y :=
  ⟨Kf.same (Fr.setCell w _ (fun _ => h.fsb) v), fun k hk => ⟨Below.heap_setCell _ _ _ _ (h.ne_const hk).1, hk⟩⟩
theorem Ks.drew {a : World} {x : SLay} (h : Ks a x w y) : Ks a x w.drew y := ⟨⟨h.kf.fr.drew, h.kf.foot⟩, h.cs⟩
theorem sturn_any (h : IsS w sb y db s) (p : Nat) (hp : p < 4096) :
    Calls Tryz.prog 163 #[pt sb, .int .i64 p] w fun e w' => e = .returned (.tuple #[]) ∧ IsS w' sb y db (s.turn p) ∧ Ks w y w' y := by
  refine (turn_any w sb 0 s.cur.now p hp h.now (h.frozen _)).mono ?_
  rintro e w' ⟨rfl, rfl⟩
  exact ⟨rfl, h.turned p hp, (h.set_ks _ _).drew⟩
theorem IsS.setMap (h : IsS w sb y db s) {w' : World} {V : Nat → Option Value} {m : Nat} {f : Pages} (hm : MapN w' y.fm m V) (ht : w.mapTurned w' y.fm) (hmm : y.m ≤ m) (hf : ∀ p, p < 4096 → FreshAt w y.role (V p) (f p)) :
    IsS w' sb { y with V := V, m := m } db { s with cur := ⟨s.cur.now, f⟩ } ∧ Ks w y w' { y with V := V, m := m } :=
  have hF : Fr (fun k => k = y.fm) w w' := Fr.turned ht fun _ => rfl
  have hk : ∀ {k r}, y.role k = some r → r ≠ .fresh → w'.heap[k]? = w.heap[k]? := fun {k r} e hr => hF.block k (h.foot k (by simp [SLay.foot, e])) (fun e2 => by rw [e2, h.rf] at e; cases e; exact hr rfl)
  ⟨{ row := (h.row.of_block (hk h.rs (by simp))).congr fun j hj => rfl
     map := hm
     freshOk := fun p hp => (hf p hp).of_block fun k e => hk e (by simp)
     marksOk := Dk.owns_of_block h.marksOk fun k e => hk (h.rm k e) (by simp)
     undoOk := Dk.owns_of_block h.undoOk fun k e => hk (h.ru k e) (by simp)
     unAt := fun i v x h1 h2 => (h.unAt i v x h1 h2).of_block fun k e => hk e (by simp)
     rs := h.rs, rf := h.rf, rm := h.rm, ru := h.ru
     foot := fun k e => Nat.lt_of_lt_of_le (h.foot k e) hF.size
     usLen := Nat.le_trans h.usLen hmm, msLen := Nat.le_trans h.msLen hmm }, ⟨Kf.same (hF.mono fun b _ e => e ▸ h.ffm), fun k hk2 => ⟨hk hk2 (by simp), hk2⟩⟩⟩
theorem cod_of_own {v : Value} {l : List UInt8} {B : Nat} (h : Mem.Own 5 w B v l) : ∃ z, cod v = some z := by
  rcases h.2 with ⟨rfl, _⟩ | ⟨g, cap, cur, rfl, _⟩
  · exact ⟨_, rfl⟩
  · exact ⟨_, rfl⟩
theorem SlAt.ks {y' : SLay} {v : Value} {l : List UInt8} (h : SlAt w y.role v l) (k : Ks w y w' y') : SlAt w' y'.role v l := (h.of_block fun j e => (k.cs j e).1).more fun j e => (k.cs j e).2
theorem Box.ks {y' : SLay} {j : Nat} {v : Value} (h : Box w y.role j v) (k : Ks w y w' y') : Box w' y'.role j v := (h.of_block fun j e => (k.cs j e).1).more fun j e => (k.cs j e).2
theorem hold_any (h : IsS w sb y db s) (p : Nat) (hp : p < 4096) (v : Value) (l : List UInt8) (hv : SlAt w y.role v l) (hm : y.m < 1000000000) :
    Calls Tryz.prog 162 #[pt sb, .int .i64 p, v] w fun e w' => e = .returned (.tuple #[]) ∧ ∃ y', IsS w' sb y' db { s with cur := s.hold p l } ∧ Ks w y w' y' ∧ y'.m ≤ y.m + 1 := by
  obtain ⟨z, hz⟩ := cod_of_own hv.1
  have H := Lib.hid h
  have HV := Lib.hid hv
  clear h hv
  go_enter Tryz.func162, Tryz.ntmps162
  go_wp2_with (go_at_call 163; refine (sturn_any H.out p hp).mono ?_; rintro e w1 ⟨rfl, h1, k1⟩; have H1 := Lib.hid h1; have K1 := Lib.hid k1; have hc := h1.cfresh; obtain ⟨w2, hrun, hm2, ht2⟩ := h1.map.store (by unfold maxLen; omega) p hp v hz; have HM := Lib.hid hm2; have HT := Lib.hid ht2; clear h1 k1 hm2 ht2)
  first | go_end0 | (simp only [Exit.inBlock, Exit.then]; refine bodyPost_ret (results_none rfl _ _ _) rfl ?_) | refine bodyPost_ret (results_none rfl _ _ _) rfl ?_
  have hv1 := HV.out.ks K1.out
  obtain ⟨i2, k2⟩ := H1.out.setMap (f := s.cur.fresh.put p (some l)) HM.out HT.out (by omega) (fun q hq => by
    by_cases e : q = p
    · subst e; simp only [if_pos, put_same]; exact hv1
    · simp only [if_neg e, put_other _ _ e]; exact H1.out.freshOk q hq)
  exact ⟨rfl, _, i2, K1.out.trans k2, Nat.le_refl _⟩
theorem drop_any (h : IsS w sb y db s) (p : Nat) (hp : p < 4096) :
    Calls Tryz.prog 160 #[pt sb, .int .i64 p] w fun e w' => e = .returned (.tuple #[]) ∧ ∃ y', IsS w' sb y' db { s with cur := s.drop p } ∧ Ks w y w' y' ∧ y'.m ≤ y.m + 1 := by
  have H := Lib.hid h
  clear h
  go_enter Tryz.func160, Tryz.ntmps160
  go_wp2_with (go_at_call 163; refine (sturn_any H.out p hp).mono ?_; rintro e w1 ⟨rfl, h1, k1⟩; have H1 := Lib.hid h1; have K1 := Lib.hid k1; have hc := h1.cfresh; obtain ⟨w2, hrun, hm2, ht2⟩ := h1.map.drop p hp 0; have HM := Lib.hid hm2; have HT := Lib.hid ht2; clear h1 k1 hm2 ht2)
  first | go_end0 | (simp only [Exit.inBlock, Exit.then]; refine bodyPost_ret (results_none rfl _ _ _) rfl ?_) | refine bodyPost_ret (results_none rfl _ _ _) rfl ?_
  obtain ⟨i2, k2⟩ := H1.out.setMap (f := s.cur.fresh.put p none) HM.out HT.out (Nat.le_refl _) (fun q hq => by
    by_cases e : q = p
    · subst e; simp only [if_pos, put_same]; trivial
    · simp only [if_neg e, put_other _ _ e]; exact H1.out.freshOk q hq)
  exact ⟨rfl, _, i2, K1.out.trans k2, Nat.le_succ _⟩
def Sto.did1 (s : Sto) (u : Un) (o : Vw) : Sto := { s with changed := true, us := if s.marks = [] then s.us else s.us ++ [(u, o)] }
theorem own_len' {e size : Nat} {base n : Nat} {v : Value} {xs : List Value} (h : w.ownsRow base e size v n xs) : ∃ A c, v = .slice A n c := by
  rcases h.2 with ⟨rfl, rfl⟩ | ⟨g, cap, cur, rfl, _⟩
  · exact ⟨_, _, rfl⟩
  · exact ⟨_, _, rfl⟩
theorem IsS.setChanged (h : IsS w sb y db s) (b : Bool) : IsS (w.setCell ⟨sb, 1027, none⟩ (.bool b)) sb y db { s with changed := b } := by
  refine h.setRow (by simp [World.setCell]) ?_ (fun k hk _ => Below.heap_setCell _ _ _ _ hk) rfl rfl rfl
  refine (h.row.set 1027 _).congr fun j hj => ?_
  unfold scell
  by_cases e : j = 1027
  · subst e; rfl
  · rw [if_neg e]; simp only [if_neg e]
theorem frozen_of_block {w w' : World} {b : Nat} (e : w'.heap[b]? = w.heap[b]?) (i : Nat) : w'.frozen? ⟨b, i, none⟩ = w.frozen? ⟨b, i, none⟩ := by
  simp only [World.frozen?, e]
theorem func_info : (Tryz.prog.info? 1).map (fun i => (i.zero, i.size, i.bytes)) = some (some .nilFunc, 1, 8) := by kernel_rfl
theorem un_func {role : Nat → Option SRole} {f : Value} {u : Un} (h : UnAt w role sb f u) : ∃ F cap, f = .func (.func F) #[] cap := by
  cases u with
  | drop p => obtain ⟨c, q, e, _⟩ := h; exact ⟨_, _, e⟩
  | give p o => obtain ⟨f, c, q, b, sv, e, _⟩ := h; exact ⟨_, _, e⟩
  | root r => obtain ⟨x, c, e, _⟩ := h; exact ⟨_, _, e⟩
def SLay.rowed (y : SLay) (v : Value) (r : SRole) : Nat → Option SRole := fun k => if v.ownBlock = some k then some r else y.role k
theorem IsS.undone (h : IsS w sb y db s) {o : Obj} {w2 : World} {v' f : Value} {u : Un} {ov : Vw} (r1 : w2.ownsRow 0 1 1 v' (s.us.length + 1) (y.U ++ [f])) (r2 : (w.alloc o).grownBy w2 y.uv.ownBlock) (r3 : v'.ownBlock = y.uv.ownBlock ∨ v'.ownBlock = some (w.alloc o).heap.size) (hu : UnAt w y.role sb f u) :
    IsS (w2.setCell ⟨sb, 1029, none⟩ v') sb { y with uv := v', U := y.U ++ [f], m := y.m + 1, role := y.rowed v' .undo } db { s with us := s.us ++ [(u, ov)] } ∧ Ks w y (w2.setCell ⟨sb, 1029, none⟩ v') { y with uv := v', U := y.U ++ [f], m := y.m + 1, role := y.rowed v' .undo } := by
  have hb1 : ∀ k r, y.role k = some r → r ≠ .undo → w2.heap[k]? = w.heap[k]? := fun k r e hr => by
    have hlt := h.foot k (by simp [SLay.foot, e])
    refine (r2.block k (by simp; omega) (fun e2 => ?_)).trans (Below.heap_alloc _ _ _ hlt)
    have := h.ru k e2.symm
    rw [e] at this; cases this; exact hr rfl
  have hsz : w.heap.size ≤ w2.heap.size := by have := r2.size; simp at this; omega
  have hbu : ∀ k, v'.ownBlock = some k → y.role k = some .undo ∨ y.role k = none ∧ w.heap.size ≤ k := fun k e => by
    rcases r3 with e3 | e3
    · exact .inl (h.ru k (by rw [← e3]; exact e))
    · have hk : k = w.heap.size + 1 := by rw [e3] at e; injection e with e; simp at e; omega
      exact .inr ⟨h.not_foot (by omega), by omega⟩
  have hr : ∀ {k r}, y.role k = some r → r ≠ .undo → y.rowed v' .undo k = some r := fun {k r} e hn => by
    unfold SLay.rowed
    rw [if_neg (fun e2 => ?_)]
    · exact e
    · rcases hbu k e2 with h2 | ⟨h2, _⟩
      · rw [e] at h2; cases h2; exact hn rfl
      · rw [e] at h2; cases h2
  have hr2 : ∀ {k}, y.role k = some .undo → y.rowed v' .undo k = some .undo := fun {k} e => by
    unfold SLay.rowed; split
    · rfl
    · exact e
  have hk2 : ∀ k, k ≠ sb → (w2.setCell ⟨sb, 1029, none⟩ v').heap[k]? = w2.heap[k]? := fun k hk => Below.heap_setCell _ _ _ _ hk
  have hkk : ∀ k r, y.role k = some r → r ≠ .undo → r ≠ .store → (w2.setCell ⟨sb, 1029, none⟩ v').heap[k]? = w.heap[k]? := fun k r e h1 h2 => (hk2 k (fun e2 => by rw [e2, h.rs] at e; cases e; exact h2 rfl)).trans (hb1 k r e h1)
  have hcs : ∀ k, y.role k = some .const → (w2.setCell ⟨sb, 1029, none⟩ v').heap[k]? = w.heap[k]? := fun k e => hkk k _ e (by simp) (by simp)
  have hvs : ∀ k, v'.ownBlock = some k → k ≠ sb := fun k e e2 => by
    subst e2
    rcases hbu _ e with h2 | ⟨h2, _⟩
    · rw [h.rs] at h2; cases h2
    · rw [h.rs] at h2; cases h2
  refine ⟨?_, ?_, ?_⟩
  · exact {
      row := by
        refine ((h.row.of_block (hb1 sb _ h.rs (by simp))).set 1029 v').congr fun j hj => ?_
        unfold scell
        by_cases e : j = 1029
        · subst e; rfl
        · rw [if_neg e]; simp only [if_neg e]
      map := (h.map.of_block (hkk _ _ h.rf (by simp) (by simp))).mono (Nat.le_succ _)
      freshOk := fun p hp => ((h.freshOk p hp).of_block hcs).more fun k e => hr e (by simp)
      marksOk := Dk.owns_of_block h.marksOk fun k e => hkk k _ (h.rm k e) (by simp) (by simp)
      undoOk := by
        have := Dk.owns_of_block r1 (w' := w2.setCell ⟨sb, 1029, none⟩ v') fun k e => hk2 k (hvs k e)
        simpa using this
      unAt := fun i v x h1 h2 => by
        have hl : y.U.length = s.us.length := by have := h.undoOk.1; omega
        by_cases hi : i < s.us.length
        · rw [List.getElem?_append_left (by omega)] at h1
          rw [List.getElem?_append_left hi] at h2
          exact ((h.unAt i v x h1 h2).of_block hcs).more fun k e => hr e (by simp)
        · have hi2 : i = s.us.length := by
            have := (List.getElem?_eq_some_iff.1 h2).1; simp at this; omega
          subst hi2
          rw [List.getElem?_append_right (by omega), hl, Nat.sub_self] at h1
          rw [List.getElem?_append_right (Nat.le_refl _), Nat.sub_self] at h2
          injection h1 with h1; injection h2 with h2
          subst h1; subst h2
          exact (hu.of_block hcs).more fun k e => hr e (by simp)
      rs := hr h.rs (by simp), rf := hr h.rf (by simp), rm := fun k e => hr (h.rm k e) (by simp)
      ru := fun k e => by show y.rowed v' .undo k = _; unfold SLay.rowed; rw [if_pos e]
      foot := fun k e => by
        have hs2 : (w2.setCell ⟨sb, 1029, none⟩ v').heap.size = w2.heap.size := by simp [World.setCell]
        rw [hs2]
        by_cases e2 : v'.ownBlock = some k
        · exact (World.ownsRow.lt r1 k e2).2
        · have : y.foot k := by
            have e3 : y.rowed v' .undo k ≠ none := e
            unfold SLay.rowed at e3; rw [if_neg e2] at e3; exact e3
          exact Nat.lt_of_lt_of_le (h.foot k this) hsz
      usLen := by rw [List.length_append]; have := h.usLen; simp; omega
      msLen := by have := h.msLen; show s.marks.length ≤ y.m + 1; omega }
  · refine ⟨⟨r2.os, r2.tape, r2.output, by simpa [World.setCell] using hsz, fun k hk hf => ?_⟩, fun k hk e => ?_⟩
    · refine (hk2 k (fun e => hf (e ▸ h.fsb))).trans ((r2.block k (by simp; omega) (fun e2 => hf ?_)).trans (Below.heap_alloc _ _ _ hk))
      have := h.ru k e2.symm
      simp [SLay.foot, this]
    · by_cases e2 : v'.ownBlock = some k
      · rcases hbu k e2 with h2 | ⟨_, h2⟩
        · simp [SLay.foot, h2]
        · omega
      · have e3 : y.rowed v' .undo k ≠ none := e
        unfold SLay.rowed at e3; rw [if_neg e2] at e3; exact e3
  · exact fun k hk => ⟨hcs k hk, hr hk (by simp)⟩
set_option maxHeartbeats 1000000 in
theorem did_any (h : IsS w sb y db s) (f : Value) (u : Un) (o : Vw) (hu : UnAt w y.role sb f u) (hm : y.m < 1000000000) :
    Calls Tryz.prog 155 #[pt sb, f] w fun e w' => e = .returned (.tuple #[]) ∧ ∃ y', IsS w' sb y' db (s.did1 u o) ∧ Ks w y w' y' ∧ y'.m ≤ y.m + 1 := by
  have H1 := Lib.hid (h.setChanged true)
  have K1 := Lib.hid (h.set_ks 1027 (.bool true))
  obtain ⟨F, cap, rfl⟩ := un_func hu
  have HU := Lib.hid hu
  have c4 := H1.out.cmarks
  have c5 := H1.out.cundo
  have f7 := h.frozen 1027
  have c7 := h.cchanged
  obtain ⟨A, c, hmv⟩ := own_len' h.marksOk
  rw [hmv] at c4
  have hlen : s.marks.length < 1000000000 := by have := h.msLen; omega
  clear h hu
  by_cases he : s.marks = []
  · have e1 : s.did1 u o = { s with changed := true } := by unfold Sto.did1; rw [if_pos he]
    rw [e1]
    rw [he, List.length_nil] at c4
    go_enter Tryz.func155, Tryz.ntmps155
    go_wp2
    first | go_end0 | (simp only [Exit.inBlock, Exit.then]; refine bodyPost_ret (results_none rfl _ _ _) rfl ?_) | refine bodyPost_ret (results_none rfl _ _ _) rfl ?_
    exact ⟨rfl, _, H1.out, K1.out, by omega⟩
  · have hpos : 0 < s.marks.length := List.length_pos_iff.2 he
    have hpos' : (0 : Int) < (s.marks.length : Int) := by omega
    have hun := Lib.hid H1.out.undoOk
    have hul := Lib.hid H1.out.usLen
    generalize s.marks.length = nm at c4 hlen hpos hpos'
    have hE := Lib.hid he
    clear he hmv hlen hpos
    have hne : y.uv.ownBlock ≠ some sb := fun e => by have := H1.out.ru sb e; rw [H1.out.rs] at this; cases this
    have HU1 := Lib.hid (HU.out.of_block (w' := w.setCell ⟨sb, 1027, none⟩ (.bool true)) fun k hk => (K1.out.cs k hk).1)
    have hO := Lib.hid (Dk.owns_of_block (w' := (w.setCell ⟨sb, 1027, none⟩ (.bool true)).alloc (.cells #[.func (.func F) #[] cap] 1)) hun.out fun k hk => Below.heap_alloc _ _ _ (World.ownsRow.lt hun.out k hk).2)
    have hC : ∀ j u, [Value.func (.func F) #[] cap][j]? = some u → ((w.setCell ⟨sb, 1027, none⟩ (.bool true)).alloc (.cells #[.func (.func F) #[] cap] 1)).cell? ((⟨w.heap.size, 0, none⟩ : Addr).add j) = some u := fun j u hj => by
      have hj0 : j = 0 := by
        have := (List.getElem?_eq_some_iff.1 hj).1; simp at this; omega
      subst hj0
      injection hj with hj; subst hj
      have := Dk.cell_alloc_new (w.setCell ⟨sb, 1027, none⟩ (.bool true)) (Value.func (.func F) #[] cap) 1
      rwa [show (w.setCell ⟨sb, 1027, none⟩ (.bool true)).heap.size = w.heap.size by simp [World.setCell]] at this
    have hC := Lib.hid hC
    have hn1 : s.us.length + 1 ≤ maxLen := by have : s.us.length ≤ y.m := hul.out; unfold maxLen; omega
    have hn2 : (s.us.length + 1) * 8 ≤ 140737488355328 := by have : s.us.length ≤ y.m := hul.out; omega
    have hn1 := Lib.hid hn1
    have hn2 := Lib.hid hn2
    have hX : ∀ u ∈ [Value.func (.func F) #[] cap], u.oneCell' = true := by simp [Value.oneCell']
    have hX := Lib.hid hX
    go_enter Tryz.func155, Tryz.ntmps155
    go_wp2_with (at_builtin; refine wpList_append_row Tryz.underlying95 func_info rfl (by omega) rfl _ _ rfl 0 _ _ _ rfl hO.out _ 1 _ [.func (.func F) #[] cap] rfl rfl hC.out hX.out hn1.out hn2.out (Nat.zero_le _) ?_; intro v' w2 r1 r2 r3; obtain ⟨A2, c2, rfl⟩ := own_len' r1; have k9 := H1.out.undone (ov := o) r1 r2 r3 HU1.out; have g9 := (H1.out.alloc (.cells #[.func (.func F) #[] cap] 1)); have b9 : w2.heap[sb]? = _ := r2.block sb (g9.foot sb g9.fsb) (fun e => hne e.symm); have c9 := (World.cell?_of_block (a := ⟨sb, 1029, none⟩) b9).trans g9.cundo; have f9 := (frozen_of_block b9 1029).trans (g9.frozen 1029); have K9 := Lib.hid k9; clear r1 r2 r3 k9 g9 b9)
    first | go_end0 | (simp only [Exit.inBlock, Exit.then]; refine bodyPost_ret (results_none rfl _ _ _) rfl ?_) | refine bodyPost_ret (results_none rfl _ _ _) rfl ?_
    refine ⟨rfl, _, ?_, K1.out.trans K9.out.2, Nat.le_refl _⟩
    have e2 : s.did1 u o = { s with changed := true, us := s.us ++ [(u, o)] } := by unfold Sto.did1; rw [if_neg hE.out]
    rw [e2]
    exact K9.out.1
end
end Go.Proofs.YtcjokkjepgfinaaGreatDoor.Sk
namespace Go.Proofs.YtcjokkjepgfinaaGreatDoor.Sk
set_option maxRecDepth 8000
open Go.RowKit Mem Go.ChangeMaps
open Dk (cod elem cod_inj elem_mk elem_inv key key_inj wf_key keyed3 MapIs Fr ptr hmf cell_alloc cell_alloc_new)
section
variable {w w' : World} {sb db : Nat} {y : SLay} {s : Sto}
theorem did_take (s : Sto) (p : Nat) (l : List UInt8) : ({ s with cur := s.hold p l } : Sto).did1 (.drop p) s.cur = s.take p l := rfl
theorem did_give (s : Sto) (p : Nat) : ({ s with cur := s.drop p } : Sto).did1 (.give p (s.cur.fresh p)) s.cur = s.give p := rfl
theorem did_setRoot (s : Sto) (p : Nat) : ({ s with cur := ⟨{ s.cur.now with root := p }, s.cur.fresh⟩ } : Sto).did1 (.root s.cur.now.root) s.cur = s.setRoot p := rfl
set_option maxHeartbeats 1000000 in
theorem ctake_any (h : IsS w sb y db s) (p : Nat) (hp : p < 4096) (v : Value) (l : List UInt8) (hv : SlAt w y.role v l) (hm : y.m < 100000000) :
    Calls Tryz.prog 159 #[pt sb, .int .i64 p, v] w fun e w' => e = .returned (.tuple #[]) ∧ ∃ y', IsS w' sb y' db (s.take p l) ∧ Ks w y w' y' ∧ y'.m ≤ y.m + 2 := by
  have h1 := ((h.alloc (.cells #[pt sb] 138)).alloc (.cells #[.int .i64 (p : Int)] 3))
  have n1 : y.role w.heap.size = none := h.not_foot (Nat.le_refl _)
  have h2 := h1.adopt (k := w.heap.size) (by simp; omega) n1
  have n2 : (y.adopt w.heap.size).role (w.heap.size + 1) = none := by rw [adopt_other y (by omega)]; exact h.not_foot (by omega)
  have h3 := h2.adopt (k := w.heap.size + 1) (by simp) n2
  have hB := ((Below.refl w.heap.size w).alloc (Nat.le_refl _) (.cells #[pt sb] 138)).alloc (by simp) (.cells #[.int .i64 (p : Int)] 3)
  have K0 := Lib.hid (((Ks.ofBelow h hB).adopt _ (Nat.le_refl _) n1).adopt _ (by omega) n2)
  have B1 : Box ((w.alloc (.cells #[pt sb] 138)).alloc (.cells #[.int .i64 (p : Int)] 3)) ((y.adopt w.heap.size).adopt (w.heap.size + 1)).role w.heap.size (pt sb) := ⟨by rw [adopt_other _ (by omega)]; exact adopt_const _ _, cell_alloc (cell_alloc_new w _ _) _⟩
  have B2 : Box ((w.alloc (.cells #[pt sb] 138)).alloc (.cells #[.int .i64 (p : Int)] 3)) ((y.adopt w.heap.size).adopt (w.heap.size + 1)).role (w.heap.size + 1) (.int .i64 (p : Int)) := ⟨adopt_const _ _, by
    have := cell_alloc_new (w.alloc (.cells #[pt sb] 138)) (.int .i64 (p : Int)) 3
    rwa [size_alloc'] at this⟩
  have SV := Lib.hid (hv.ks K0.out)
  have B1 := Lib.hid B1
  have B2 := Lib.hid B2
  have H := Lib.hid h3
  have hmk := hmf
  clear h h1 h2 h3 hB n1 n2 hv
  go_enter Tryz.func159, Tryz.ntmps159
  go_wp2_with (first
    | (go_at_call 155; refine (did_any H1.out _ (.drop p) s.cur ⟨_, _, rfl, B1.out.ks K1.out, B2.out.ks K1.out, hp⟩ (by omega)).mono ?_; rintro e w2 ⟨rfl, y2, h2, k2, m2⟩; have H2 := Lib.hid h2; have K2 := Lib.hid k2; clear h2 k2)
    | (go_at_call 162; refine (hold_any H.out p hp v l SV.out (by show y.m < _; omega)).mono ?_; rintro e w1 ⟨rfl, y1, h1, k1, m1⟩; have H1 := Lib.hid h1; have K1 := Lib.hid k1; have C1 := ((B1.out.ks k1)).2; have C2 := (B2.out.ks k1).2; have m1 : y1.m ≤ y.m + 1 := m1; clear h1 k1))
  first | go_end0 | (simp only [Exit.inBlock, Exit.then]; refine bodyPost_ret (results_none rfl _ _ _) rfl ?_) | refine bodyPost_ret (results_none rfl _ _ _) rfl ?_
  exact ⟨rfl, _, did_take s p l ▸ H2.out, (K0.out.trans K1.out).trans K2.out, by omega⟩
end
end Go.Proofs.YtcjokkjepgfinaaGreatDoor.Sk
namespace Go.Proofs.YtcjokkjepgfinaaGreatDoor.Sk
set_option maxRecDepth 8000
open Go.RowKit Mem Go.ChangeMaps
open Dk (cod elem cod_inj elem_mk elem_inv key key_inj wf_key keyed3 MapIs Fr ptr hmf cell_alloc cell_alloc_new zero42)
section
variable {w w' : World} {sb db : Nat} {y : SLay} {s : Sto}
set_option maxHeartbeats 1000000 in
theorem cgive_any (h : IsS w sb y db s) (p : Nat) (hp : p < 4096) (hm : y.m < 100000000) :
    Calls Tryz.prog 130 #[pt sb, .int .i64 p] w fun e w' => e = .returned (.tuple #[]) ∧ ∃ y', IsS w' sb y' db (s.give p) ∧ Ks w y w' y' ∧ y'.m ≤ y.m + 2 := by
  obtain ⟨W0, hW0⟩ : ∃ W0, W0 = (w.alloc (.cells #[pt sb] 138)).alloc (.cells #[.int .i64 (p : Int)] 3) := ⟨_, rfl⟩
  have hz0 : W0.heap.size = w.heap.size + 2 := by rw [hW0]; simp
  have hI : IsS W0 sb y db s := hW0 ▸ ((h.alloc _).alloc _)
  have a1 : W0.cell? ⟨w.heap.size, 0, none⟩ = some (pt sb) := hW0 ▸ cell_alloc (cell_alloc_new w _ _) _
  have a2 : W0.cell? ⟨w.heap.size + 1, 0, none⟩ = some (.int .i64 (p : Int)) := by
    have := cell_alloc_new (w.alloc (.cells #[pt sb] 138)) (.int .i64 (p : Int)) 3
    rw [size_alloc'] at this
    rw [hW0]; exact this
  have a3 := hI.cfresh
  obtain ⟨va, hva⟩ : ∃ va, va = (y.V p).getD (.slice none 0 0) := ⟨_, rfl⟩
  obtain ⟨ok, hok⟩ : ∃ ok, ok = (y.V p).isSome := ⟨_, rfl⟩
  have hlk : ∀ W, W.heap[y.fm]? = W0.heap[y.fm]? → (Instr.lookup 93 (.map (some y.fm)) (.int .i64 p) true).run Tryz.prog W = .ok (.tuple #[va, .bool ok]) W := fun W e => by
    rw [hva, hok]
    exact (hI.map.is.of_block e).look_ok Tryz.underlying93 (zero42 _) p (by omega)
  have hlt : y.fm < W0.heap.size := hI.map.lt
  have l0 := hlk W0.drew rfl
  have l1 : ∀ o, (Instr.lookup 93 (.map (some y.fm)) (.int .i64 p) true).run Tryz.prog (W0.alloc o).drew = .ok (.tuple #[va, .bool ok]) (W0.alloc o).drew := fun o => hlk _ (Below.heap_alloc _ _ _ hlt)
  have l2 : ∀ o o', (Instr.lookup 93 (.map (some y.fm)) (.int .i64 p) true).run Tryz.prog ((W0.alloc o).alloc o').drew = .ok (.tuple #[va, .bool ok]) ((W0.alloc o).alloc o').drew := fun o o' => hlk _ ((Below.heap_alloc _ _ _ (by simp; omega)).trans (Below.heap_alloc _ _ _ hlt))
  have hvs : ∃ A n c, va = .slice A n c := by
    have := hI.freshOk p hp
    rw [hva]
    rcases hV : y.V p with _ | v
    · exact ⟨_, _, _, rfl⟩
    · rw [hV] at this
      rcases hf : s.cur.fresh p with _ | l
      · rw [hf] at this; exact this.elim
      · rw [hf] at this
        obtain ⟨A, c, e, _⟩ := this.1.form
        exact ⟨_, _, _, e⟩
  obtain ⟨A, n, c, hvs⟩ := hvs
  have hbel : Below w.heap.size w W0 := hW0 ▸ ((Below.refl w.heap.size w).alloc (Nat.le_refl _) _).alloc (by simp) _
  have hsa : ∀ l, s.cur.fresh p = some l → SlAt W0 y.role va l := fun l hl => by
    have := hI.freshOk p hp
    rw [hl] at this
    rcases hV : y.V p with _ | v
    · rw [hV] at this; exact this.elim
    · rw [hV] at this; rw [hva, hV]; exact this
  have hoks : ok = (s.cur.fresh p).isSome := by
    have := hI.freshOk p hp
    rw [hok]
    rcases hV : y.V p with _ | v <;> rcases hf : s.cur.fresh p with _ | l
    · rfl
    · rw [hV, hf] at this; exact this.elim
    · rw [hV, hf] at this; exact this.elim
    · rfl
  have key : ∀ W1 kb kf, Below W0.heap.size W0 W1 → W0.heap.size ≤ kb → W0.heap.size ≤ kf → kb ≠ kf → W1.cell? ⟨kb, 0, none⟩ = some va → W1.cell? ⟨kf, 0, none⟩ = some (.bool ok) →
      ∃ y1, IsS W1 sb y1 db s ∧ Ks w y W1 y1 ∧ y1.m = y.m ∧ Box W1 y1.role w.heap.size (pt sb) ∧ Box W1 y1.role (w.heap.size + 1) (.int .i64 (p : Int)) ∧ Box W1 y1.role kf (.bool (s.cur.fresh p).isSome) ∧ Box W1 y1.role kb va ∧ ∀ l, s.cur.fresh p = some l → SlAt W1 y1.role va l := fun W1 kb kf hb h1 h2 h3 c1 c2 => by
    have hb2 : Below w.heap.size w W1 := hbel.trans (hb.mono (by omega))
    have l1 := Dk.lt_of_cell c1
    have l2 := Dk.lt_of_cell c2
    have i0 : IsS W1 sb y db s := hI.below hb
    have n0 : y.role w.heap.size = none := h.not_foot (Nat.le_refl _)
    have n1 : y.role (w.heap.size + 1) = none := h.not_foot (by omega)
    have n2 : y.role kf = none := h.not_foot (by omega)
    have n3 : y.role kb = none := h.not_foot (by omega)
    have n1' : (y.adopt w.heap.size).role (w.heap.size + 1) = none := by rw [adopt_other _ (by omega)]; exact n1
    have n2' : ((y.adopt w.heap.size).adopt (w.heap.size + 1)).role kf = none := by rw [adopt_other _ (by omega), adopt_other _ (by omega)]; exact n2
    have n3' : (((y.adopt w.heap.size).adopt (w.heap.size + 1)).adopt kf).role kb = none := by rw [adopt_other _ h3, adopt_other _ (by omega), adopt_other _ (by omega)]; exact n3
    have hs := hb.size
    have K1 := (Ks.ofBelow h hb2).adopt y (k := w.heap.size) (Nat.le_refl _) n0
    have K2 := K1.adopt _ (k := w.heap.size + 1) (by omega) n1'
    have K3 := K2.adopt _ (k := kf) (by omega) n2'
    have K4 := K3.adopt _ (k := kb) (by omega) n3'
    have I4 := (((i0.adopt (k := w.heap.size) (by omega) n0).adopt (k := w.heap.size + 1) (by omega) n1').adopt l2 n2').adopt l1 n3'
    have d1 : w.heap.size ≠ kb := by omega
    have d2 : w.heap.size ≠ kf := by omega
    have d3 : w.heap.size + 1 ≠ kb := by omega
    have d4 : w.heap.size + 1 ≠ kf := by omega
    have d5 : w.heap.size ≠ w.heap.size + 1 := by omega
    refine ⟨_, I4, K4, rfl, ⟨?_, ?_⟩, ⟨?_, ?_⟩, ⟨?_, ?_⟩, ⟨adopt_const _ _, c1⟩, ?_⟩
    · rw [adopt_other _ d1, adopt_other _ d2, adopt_other _ d5]; exact adopt_const _ _
    · exact (hb.cell (by simp; omega)).trans a1
    · rw [adopt_other _ d3, adopt_other _ d4]; exact adopt_const _ _
    · exact (hb.cell (by simp; omega)).trans a2
    · rw [adopt_other _ (fun e => h3 e.symm)]; exact adopt_const _ _
    · rw [← hoks]; exact c2
    · intro l hl
      have s0 := (hsa l hl).of_block fun k hk => hb.block k (hI.foot k (by simp [SLay.foot, hk]))
      refine s0.more fun k hk => ?_
      have e1 : k < w.heap.size := h.foot k (by simp [SLay.foot, hk])
      have g1 : k ≠ kb := by omega
      have g2 : k ≠ kf := by omega
      have g3 : k ≠ w.heap.size + 1 := by omega
      have g4 : k ≠ w.heap.size := by omega
      rw [adopt_other _ g1, adopt_other _ g2, adopt_other _ g3, adopt_other _ g4]; exact hk
  have KEY := Lib.hid key
  have HH := Lib.hid hI
  clear hbel hsa hoks key
  have HW := Lib.hid hW0
  have HL := Lib.hid hlk
  have HV := Lib.hid (And.intro hva hok)
  subst hvs
  have a1b := fun o => cell_alloc a1 o
  have a2b := fun o => cell_alloc a2 o
  have a3b := fun o => cell_alloc a3 o
  have a1c := fun o o' => cell_alloc (a1b o) o'
  have a2c := fun o o' => cell_alloc (a2b o) o'
  have a3c := fun o o' => cell_alloc (a3b o) o'
  have hmk := hmf
  clear h hI hlk hva hok hlt hz0 hW0
  go_enter Tryz.func130, Tryz.ntmps130
  go_wp2_with fail
  rw [← HW.out]
  clear HW
  go_region
  · obtain ⟨W1, hW1⟩ : ∃ W1, W1 = ((W0.alloc (.cells #[.slice A n c] 32)).alloc (.cells #[.bool ok] 4)).drew := ⟨_, rfl⟩
    rw [← hW1]
    have hc1 : W1.cell? ⟨W0.heap.size, 0, none⟩ = some (.slice A n c) := hW1 ▸ cell_alloc (cell_alloc_new W0 _ _) _
    have hc2 : W1.cell? ⟨W0.heap.size + 1, 0, none⟩ = some (.bool ok) := by
      have := cell_alloc_new (W0.alloc (.cells #[.slice A n c] 32)) (.bool ok) 4
      rw [size_alloc'] at this
      rw [hW1]; exact this
    have hb : Below W0.heap.size W0 W1 := hW1 ▸ (((Below.refl _ W0).alloc (Nat.le_refl _) _).alloc (by simp) _).drew
    obtain ⟨y1, i1, k1, m1, b1, b2, b3, b4, b5⟩ := KEY.out W1 _ _ hb (Nat.le_refl _) (Nat.le_succ _) (by omega) hc1 hc2
    have C1 := b1.2
    have C2 := b2.2
    have H1 := Lib.hid i1
    have K1 := Lib.hid k1
    have BB := Lib.hid (And.intro b1 (And.intro b2 (And.intro b3 (And.intro b4 b5))))
    clear hW1 hc1 hc2 hb i1 k1 b1 b2 b3 b4 b5 KEY HL HV l0 l1 l2 a1 a2 a3 a1b a2b a3b a1c a2c a3c HH
    go_wp2_with (first
      | (go_at_call 155; refine (did_any H2.out _ (.give p (s.cur.fresh p)) s.cur ⟨_, _, _, _, _, rfl, BB.out.2.2.1.ks K2.out, BB.out.1.ks K2.out, BB.out.2.1.ks K2.out, BB.out.2.2.2.1.ks K2.out, fun l e => (BB.out.2.2.2.2 l e).ks K2.out, hp⟩ (by omega)).mono ?_; rintro e w3 ⟨rfl, y3, h3, k3, m3⟩; have H3 := Lib.hid h3; have K3 := Lib.hid k3; clear h3 k3)
      | (go_at_call 160; refine (drop_any H1.out p hp).mono ?_; rintro e w2 ⟨rfl, y2, h2, k2, m2⟩; have H2 := Lib.hid h2; have K2 := Lib.hid k2; have D1 := (BB.out.1.ks k2).2; have D2 := (BB.out.2.1.ks k2).2; clear h2 k2))
    first | go_end0 | (simp only [Exit.inBlock, Exit.then]; refine bodyPost_ret (results_none rfl _ _ _) rfl ?_) | refine bodyPost_ret (results_none rfl _ _ _) rfl ?_
    exact ⟨rfl, _, did_give s p ▸ H3.out, (K1.out.trans K2.out).trans K3.out, by omega⟩
  · obtain ⟨W1, hW1⟩ : ∃ W1, W1 = ((W0.alloc (.cells #[.bool ok] 4)).alloc (.cells #[.slice A n c] 32)).drew := ⟨_, rfl⟩
    rw [← hW1]
    have hc2 : W1.cell? ⟨W0.heap.size, 0, none⟩ = some (.bool ok) := hW1 ▸ cell_alloc (cell_alloc_new W0 _ _) _
    have hc1 : W1.cell? ⟨W0.heap.size + 1, 0, none⟩ = some (.slice A n c) := by
      have := cell_alloc_new (W0.alloc (.cells #[.bool ok] 4)) (.slice A n c) 32
      rw [size_alloc'] at this
      rw [hW1]; exact this
    have hb : Below W0.heap.size W0 W1 := hW1 ▸ (((Below.refl _ W0).alloc (Nat.le_refl _) _).alloc (by simp) _).drew
    obtain ⟨y1, i1, k1, m1, b1, b2, b3, b4, b5⟩ := KEY.out W1 _ _ hb (Nat.le_succ _) (Nat.le_refl _) (by omega) hc1 hc2
    have C1 := b1.2
    have C2 := b2.2
    have H1 := Lib.hid i1
    have K1 := Lib.hid k1
    have BB := Lib.hid (And.intro b1 (And.intro b2 (And.intro b3 (And.intro b4 b5))))
    clear hW1 hc1 hc2 hb i1 k1 b1 b2 b3 b4 b5 KEY HL HV l0 l1 l2 a1 a2 a3 a1b a2b a3b a1c a2c a3c HH
    go_wp2_with (first
      | (go_at_call 155; refine (did_any H2.out _ (.give p (s.cur.fresh p)) s.cur ⟨_, _, _, _, _, rfl, BB.out.2.2.1.ks K2.out, BB.out.1.ks K2.out, BB.out.2.1.ks K2.out, BB.out.2.2.2.1.ks K2.out, fun l e => (BB.out.2.2.2.2 l e).ks K2.out, hp⟩ (by omega)).mono ?_; rintro e w3 ⟨rfl, y3, h3, k3, m3⟩; have H3 := Lib.hid h3; have K3 := Lib.hid k3; clear h3 k3)
      | (go_at_call 160; refine (drop_any H1.out p hp).mono ?_; rintro e w2 ⟨rfl, y2, h2, k2, m2⟩; have H2 := Lib.hid h2; have K2 := Lib.hid k2; have D1 := (BB.out.1.ks k2).2; have D2 := (BB.out.2.1.ks k2).2; clear h2 k2))
    first | go_end0 | (simp only [Exit.inBlock, Exit.then]; refine bodyPost_ret (results_none rfl _ _ _) rfl ?_) | refine bodyPost_ret (results_none rfl _ _ _) rfl ?_
    exact ⟨rfl, _, did_give s p ▸ H3.out, (K1.out.trans K2.out).trans K3.out, by omega⟩
theorem IsS.setNowRoot (h : IsS w sb y db s) (p : Nat) : IsS (w.setCell ⟨sb, 0, none⟩ (.int .i64 (p : Int))) sb y db { s with cur := ⟨{ s.cur.now with root := p }, s.cur.fresh⟩ } := by
  refine h.setRow (by simp [World.setCell]) ?_ (fun k hk _ => Below.heap_setCell _ _ _ _ hk) rfl rfl rfl
  refine (h.row.set 0 _).congr fun j hj => ?_
  unfold scell stc
  by_cases e : j = 0
  · subst e; rfl
  · rw [if_neg e]; simp only [if_neg e]
set_option maxHeartbeats 1000000 in
theorem csetRoot_any (h : IsS w sb y db s) (p : Nat) (hm : y.m < 100000000) :
    Calls Tryz.prog 125 #[pt sb, .int .i64 p] w fun e w' => e = .returned (.tuple #[]) ∧ ∃ y', IsS w' sb y' db (s.setRoot p) ∧ Ks w y w' y' ∧ y'.m ≤ y.m + 2 := by
  have n1 : y.role w.heap.size = none := h.not_foot (Nat.le_refl _)
  have n2 : (y.adopt w.heap.size).role (w.heap.size + 1) = none := by rw [adopt_other y (by omega)]; exact h.not_foot (by omega)
  obtain ⟨W, hW⟩ : ∃ W, W = (w.alloc (.cells #[pt sb] 138)).alloc (.cells #[.int .i64 (s.cur.now.root : Int)] 3) := ⟨_, rfl⟩
  have h3 : IsS W sb ((y.adopt w.heap.size).adopt (w.heap.size + 1)) db s := hW ▸ ((((h.alloc (.cells #[pt sb] 138)).alloc (.cells #[.int .i64 (s.cur.now.root : Int)] 3)).adopt (k := w.heap.size) (by simp; omega) n1).adopt (k := w.heap.size + 1) (by simp) n2)
  have hB : Below w.heap.size w W := hW ▸ ((Below.refl w.heap.size w).alloc (Nat.le_refl _) _).alloc (by simp) _
  have K0 := ((Ks.ofBelow h hB).adopt _ (Nat.le_refl _) n1).adopt _ (by omega) n2
  have B1 : Box W ((y.adopt w.heap.size).adopt (w.heap.size + 1)).role w.heap.size (pt sb) := ⟨by rw [adopt_other _ (by omega)]; exact adopt_const _ _, hW ▸ cell_alloc (cell_alloc_new w _ _) _⟩
  have B2 : Box W ((y.adopt w.heap.size).adopt (w.heap.size + 1)).role (w.heap.size + 1) (.int .i64 (s.cur.now.root : Int)) := ⟨adopt_const _ _, by
    have := cell_alloc_new (w.alloc (.cells #[pt sb] 138)) (.int .i64 (s.cur.now.root : Int)) 3
    rw [size_alloc'] at this
    rw [hW]; exact this⟩
  have H1 := h3.setNowRoot p
  have k1 := h3.set_ks 0 (.int .i64 (p : Int))
  have C0 : (w.alloc (.cells #[pt sb] 138)).cell? ⟨sb, 0, none⟩ = some (.int .i64 (s.cur.now.root : Int)) := (h.alloc _).croot
  have C1 : (W.setCell ⟨sb, 0, none⟩ (.int .i64 (p : Int))).cell? ⟨w.heap.size, 0, none⟩ = some (pt sb) := (B1.ks k1).2
  have f0 : W.frozen? ⟨sb, 0, none⟩ = false := h3.frozen 0
  have c0 : W.cell? ⟨sb, 0, none⟩ = some (.int .i64 (s.cur.now.root : Int)) := h3.croot
  have c1 : W.cell? ⟨w.heap.size, 0, none⟩ = some (pt sb) := B1.2
  have K1 := Lib.hid (K0.trans k1)
  have H1 := Lib.hid H1
  have B1 := Lib.hid (B1.ks k1)
  have B2 := Lib.hid (B2.ks k1)
  have hmk := hmf
  subst hW
  clear h h3 hB K0 k1 n1 n2
  go_enter Tryz.func125, Tryz.ntmps125
  go_wp2_with (go_at_call 155; refine (did_any H1.out _ (.root s.cur.now.root) s.cur ⟨_, _, rfl, B2.out, B1.out⟩ (by show y.m < _; omega)).mono ?_; rintro e w2 ⟨rfl, y2, h2, k2, m2⟩; have H2 := Lib.hid h2; have K2 := Lib.hid k2; clear h2 k2)
  first | go_end0 | (simp only [Exit.inBlock, Exit.then]; refine bodyPost_ret (results_none rfl _ _ _) rfl ?_) | refine bodyPost_ret (results_none rfl _ _ _) rfl ?_
  have m2 : y2.m ≤ y.m + 1 := m2
  exact ⟨rfl, _, did_setRoot s p ▸ H2.out, K1.out.trans K2.out, by omega⟩
end
end Go.Proofs.YtcjokkjepgfinaaGreatDoor.Sk
namespace Go.Proofs.YtcjokkjepgfinaaGreatDoor.Sk
set_option maxRecDepth 8000
open Go.RowKit Mem Go.ChangeMaps
open Dk (cod elem cod_inj elem_mk elem_inv key key_inj wf_key keyed3 MapIs Fr ptr hmf cell_alloc cell_alloc_new zero42 IsD Dsk Lay)
section
variable {w w' : World} {sb db : Nat} {y : SLay} {s : Sto} {yd : Dk.Lay} {d : Dk.Dsk}
def gone (s : Sto) (d : Dsk) : Bool := s.dead || d.dead
theorem sdead_any (h : IsS w sb y db s) (hd : IsD w db yd d) : Calls Tryz.prog 73 #[pt sb] w fun e w' => e = .returned (.bool (gone s d)) ∧ w' = w := by
  have c1 := h.cdead
  have c2 := h.cdisk
  have HD := Lib.hid hd
  unfold gone
  clear h hd
  by_cases hs : s.dead = true
  · rw [hs] at c1 ⊢
    go_enter Tryz.func73, Tryz.ntmps73
    go_wp2_with fail
    go_ret
    exact ⟨rfl, rfl⟩
  · have hs' : s.dead = false := by simpa using hs
    rw [hs'] at c1 ⊢
    clear hs hs'
    go_enter Tryz.func73, Tryz.ntmps73
    go_wp2_with (go_at_call 54; refine (Dk.dead_any HD.out).mono ?_; rintro e w1 ⟨rfl, rfl⟩)
    go_ret
    exact ⟨by rw [Bool.false_or]; rfl, rfl⟩
theorem ask_any (h : IsS w sb y db s) (hd : IsD w db yd d) (F : Nat) (cap : Array Value) (hin : ∀ W, (callFunc F cap).run Tryz.prog W = .ok (.enter F cap) W) (Q : Int → World → Prop) (hf : gone s d = false → Calls Tryz.prog F cap w fun e w' => ∃ r, e = .returned (.int .i64 r) ∧ Q r w') :
    Calls Tryz.prog 44 #[pt sb, .func (.func F) #[] cap] w fun e w' => (gone s d = true ∧ e = .returned (.int .i64 9) ∧ w' = w) ∨ (gone s d = false ∧ ∃ r, e = .returned (.int .i64 r) ∧ Q r w') := by
  have c2 := h.cdisk
  have H := Lib.hid h
  have HD := Lib.hid hd
  have HF := Lib.hid hf
  clear h hd hf
  by_cases hg : gone s d = true
  · have hk := (sdead_any H.out HD.out)
    rw [hg] at hk
    have HK := Lib.hid hk
    clear hk
    go_enter Tryz.func44, Tryz.ntmps44
    go_wp2_with (go_at_call 73; refine HK.out.mono ?_; rintro e w1 ⟨rfl, rfl⟩)
    go_ret
    exact .inl ⟨hg, rfl, rfl⟩
  · have hg' : gone s d = false := by simpa using hg
    have hk := (sdead_any H.out HD.out)
    rw [hg'] at hk
    have HK := Lib.hid hk
    have HQ := Lib.hid (HF.out hg')
    have HG := Lib.hid hg'
    clear hk hg hg' HF
    go_enter Tryz.func44, Tryz.ntmps44
    go_wp2_with (first
      | (with_reducible refine HQ.out.mono ?_; rintro e w1 ⟨r, rfl, hq⟩; have Hq := Lib.hid hq; clear hq)
      | (go_at_call 73; refine HK.out.mono ?_; rintro e w1 ⟨rfl, rfl⟩))
    go_ret
    exact .inr ⟨HG.out, _, rfl, Hq.out⟩
theorem ask_nil (w : World) (f : Value) : Calls Tryz.prog 44 #[.pointer none, f] w fun e w' => e = .returned (.int .i64 8) ∧ w' = w := by
  go_enter Tryz.func44, Tryz.ntmps44
  go_wp2
  go_ret
  exact ⟨rfl, rfl⟩
def cntTo (f : Nat → Bool) : Nat → Nat
  | 0 => 0
  | k + 1 => cntTo f k + (f k).toNat
theorem ones_any (x : Int) (w : World) (h0 : 0 ≤ x) (h1 : x ≤ 255) : Calls Tryz.prog 80 #[.int .u8 x] w fun e w' => e = .returned (.int .i64 (Lib.onesCount x.toNat)) ∧ w' = w := by
  rw [← Lib.pop8_int x h0 h1]
  go_enter Tryz.func80, Tryz.ntmps80
  go_wp2
  go_ret
  generalize Lib.pop8 x = q
  refine ⟨?_, rfl⟩
  show Ending.returned (Value.int IntKind.i64 (wrap64 q)) = _
  unfold wrap64
  rfl
def bitsOf (x : Nat) : Nat := (x.testBit 0).toNat + (x.testBit 1).toNat + (x.testBit 2).toNat + (x.testBit 3).toNat + (x.testBit 4).toNat + (x.testBit 5).toNat + (x.testBit 6).toNat + (x.testBit 7).toNat
set_option maxRecDepth 100000 in
theorem ones_bits : ∀ n : Fin 256, Lib.onesCount n.val = bitsOf n.val := by decide +kernel
theorem ones_bits' (n : Nat) (h : n < 256) : Lib.onesCount n = bitsOf n := ones_bits ⟨n, h⟩
theorem cnt8 (f : Nat → Bool) (m : Nat) : cntTo f (m + 8) = cntTo f m + ((f (m + 0)).toNat + (f (m + 1)).toNat + (f (m + 2)).toNat + (f (m + 3)).toNat + (f (m + 4)).toNat + (f (m + 5)).toNat + (f (m + 6)).toNat + (f (m + 7)).toNat) := by
  show cntTo f m + (f m).toNat + (f (m + 1)).toNat + (f (m + 2)).toNat + (f (m + 3)).toNat + (f (m + 4)).toNat + (f (m + 5)).toNat + (f (m + 6)).toNat + (f (m + 7)).toNat = _
  simp only [Nat.add_zero, Nat.add_assoc]
theorem ones_pk (f : Nat → Bool) (j : Nat) : cntTo f (8 * j) + Lib.onesCount (pk f j) = cntTo f (8 * (j + 1)) := by
  rw [ones_bits' _ (pk_lt f j)]
  unfold bitsOf
  rw [pk_bit f j 0 (by omega), pk_bit f j 1 (by omega), pk_bit f j 2 (by omega), pk_bit f j 3 (by omega), pk_bit f j 4 (by omega), pk_bit f j 5 (by omega), pk_bit f j 6 (by omega), pk_bit f j 7 (by omega)]
  rw [show 8 * (j + 1) = 8 * j + 8 by omega, cnt8]
theorem cntTo_le (f : Nat → Bool) (k : Nat) : cntTo f k ≤ k := by
  induction k with
  | zero => exact Nat.le_refl _
  | succ k ih => unfold cntTo; cases f k <;> simp <;> omega
def Sto.used (s : Sto) (p : Nat) : Bool := s.cur.now.has p || s.kept.has p
theorem pk_or (f g : Nat → Bool) (j : Nat) : bits BinOp.or IntKind.u8 (pk f j : Int) (pk g j : Int) = (pk (fun p => f p || g p) j : Int) := by
  rw [u8_or_nat _ _ (pk_lt f j) (pk_lt g j)]
  congr 1
  refine pk_of _ _ _ (Nat.or_lt_two_pow (n := 8) (pk_lt f j) (pk_lt g j)) fun i hi => ?_
  rw [Nat.testBit_or, pk_bit f j i hi, pk_bit g j i hi]
def bcells (t : Sta) : List Value := (List.range 512).map fun j => .int .u8 (pk t.has j : Int)
theorem bcells_at (t : Sta) (j : Nat) (hj : j < 512) : (bcells t)[j]? = some (.int .u8 (pk t.has j : Int)) := by simp [bcells, hj]
theorem info71 : (Tryz.prog.info? 90).map (·.size) = some 512 := by kernel_rfl
theorem range71 {b o : Nat} {t : Sta} (h : StaAt w b o t) : w.rangeAt b (o + 1) (bcells t) := fun j v hv => by
  have hj : j < 512 := by have := (List.getElem?_eq_some_iff.1 hv).1; simpa [bcells] using this
  rw [bcells_at t j hj] at hv
  injection hv with hv; subst hv
  exact h.byte j hj
theorem info71b (t : Sta) : (Tryz.prog.info? 90).map (·.size) = some (bcells t).length := by rw [info71]; simp [bcells]
theorem size5 (W : World) : (Go.sizeOf 5).run Tryz.prog W = .ok 1 W := by
  obtain ⟨i, hi, hz, hs, hb⟩ := byteTy.info
  simp [Go.sizeOf, typeInfo, hi, hs]
theorem index71 (W : World) (t : Sta) (j : Nat) (hj : j < 512) : (Instr.index 90 (.agg (bcells t).toArray) (.int .i64 j)).run Tryz.prog W = .ok (.int .u8 (pk t.has j : Int)) W := by
  have h1 : (0 : Int) ≤ (j : Int) ∧ (j : Int) < 512 := by omega
  have h2 := bcells_at t j hj
  obtain ⟨i, hi, hz, hs, hb⟩ := byteTy.info
  generalize bcells t = cs at h2 ⊢
  simp [Instr.index, asIntOf, run_underlying Tryz.underlying90, size5, part, h1]
  rw [if_pos hj, h2]; rfl
set_option maxHeartbeats 1000000 in
theorem busy_any (h : IsS w sb y db s) : Calls Tryz.prog 53 #[pt sb] w fun e w' => e = .returned (.int .i64 (cntTo s.used 4096 : Nat)) ∧ w' = w := by
  have hr := range71 (o := 0) h.now
  rw [Nat.zero_add] at hr
  have ld := Lib.hid (And.intro hr (info71b s.cur.now))
  have hix := fun W j hj => index71 W s.cur.now j hj
  have hk := fun j (hj : j < 512) => h.kept.byte j hj
  generalize bcells s.cur.now = ar at ld hix
  clear hr
  go_enter Tryz.func53, Tryz.ntmps53
  go_wp2_with (refine wpList_load_mid rfl 90 _ rfl sb 1 rfl _ _ ld.out.1 Tryz.underlying90 rfl ld.out.2 ?_)
  have hkept := Lib.hid hk
  have hidx := Lib.hid hix
  have hor := Lib.hid (pk_or s.cur.now.has s.kept.has)
  clear hk hix
  go_loop [3, 11] (fun n i => ∃ k : Nat, k ≤ 512 ∧ i = .int .i64 k ∧ n = .int .i64 (cntTo s.used (8 * k) : Nat)) (fun _ i => 512 - (intOf i).toNat)
  case atStart => exact ⟨0, Nat.zero_le _, rfl, rfl⟩
  case round =>
    obtain ⟨k, hk, rfl, rfl⟩ := hrel
    by_cases hlt : k < 512
    · have c1 := hkept.out k hlt
      rw [show 513 + 1 + k = 514 + k by omega] at c1
      have x1 := hidx.out w k hlt
      have hlt' : (k : Int) < 512 := by omega
      have hs := Lib.hid (ones_pk s.used k)
      have hle := cntTo_le s.used (8 * (k + 1))
      have p1 : pk s.used k < 256 := pk_lt _ _
      have po : bits BinOp.or IntKind.u8 (pk s.cur.now.has k : Int) (pk s.kept.has k : Int) = (pk s.used k : Int) := hor.out k
      have on := ones_any (pk s.used k : Int) w (by omega) (by omega)
      rw [Int.toNat_natCast] at on
      have ON := Lib.hid on
      clear on
      go_wp2_with (go_at_call 80; refine ON.out.mono ?_; rintro e w1 ⟨rfl, rfl⟩)
      go_round
      case rel =>
        refine ⟨k + 1, by omega, by go_num, ?_⟩
        have hs := hs.out
        refine congrArg (Value.int IntKind.i64) ?_
        unfold wrap64; omega
      case measure => simp [intOf]; omega
    · obtain rfl : k = 512 := by omega
      clear hkept hidx
      go_wp2
      go_ret
      exact ⟨rfl, rfl⟩
def IsSpare (s : Sto) (p : Nat) : Prop := (p = 0 ∧ ∀ q, 2 ≤ q → q < s.n → s.free q = false) ∨ (2 ≤ p ∧ p < s.n ∧ s.free p = true ∧ ∀ q, 2 ≤ q → q < p → s.free q = false)
theorem IsSpare.one {s : Sto} {p q : Nat} (h : IsSpare s p) (k : IsSpare s q) : p = q := by
  rcases h with ⟨rfl, h⟩ | ⟨h1, h2, h3, h4⟩ <;> rcases k with ⟨rfl, k⟩ | ⟨k1, k2, k3, k4⟩
  · rfl
  · rw [h q k1 k2] at k3; cases k3
  · rw [k p h1 h2] at h3; cases h3
  · rcases Nat.lt_trichotomy p q with e | e | e
    · rw [k4 p h1 e] at h3; cases h3
    · exact e
    · rw [h4 q k1 e] at k3; cases k3
set_option maxHeartbeats 1000000 in
theorem spare_any (h : IsS w sb y db s) (hn : s.n ≤ 4096) : Calls Tryz.prog 158 #[pt sb, .int .i64 (s.n : Int)] w fun e w' => (∃ p, IsSpare s p ∧ e = .returned (.int .i64 (p : Int))) ∧ w' = w := by
  have H := Lib.hid h
  clear h
  go_enter Tryz.func158, Tryz.ntmps158
  go_wp2
  go_loop [5] (fun i => ∃ k : Nat, 2 ≤ k ∧ (k ≤ s.n ∨ k = 2) ∧ i = .int .i64 k ∧ Hid (∀ q, 2 ≤ q → q < k → s.free q = false)) (fun i => s.n - (intOf i).toNat)
  case atStart => exact ⟨2, Nat.le_refl _, by omega, rfl, Lib.hid fun q h1 h2 => by omega⟩
  case round =>
    obtain ⟨k, hk2, hkn, rfl, hall⟩ := hrel
    by_cases hlt : k < s.n
    · have hlt' : (k : Int) < (s.n : Int) := by omega
      have A1 := Lib.hid (has_any w sb 0 s.cur.now k H.out.now)
      have A2 := Lib.hid (has_any w sb 513 s.kept k H.out.kept)
      have e1 := hasI_nat s.cur.now k (by omega)
      have e2 := hasI_nat s.kept k (by omega)
      rw [e1] at A1
      rw [e2] at A2
      clear e1 e2
      by_cases h1 : s.cur.now.has k = true
      · have hf : s.free k = false := by simp [Sto.free, h1]
        rw [h1] at A1
        have hall2 := Lib.hid (show ∀ q, 2 ≤ q → q < k + 1 → s.free q = false from fun q h1 h2 => by
          by_cases e : q = k
          · rw [e]; exact hf
          · exact hall.out q h1 (by omega))
        clear h1 hf
        go_wp2_with (first
          | (go_at_call 86; with_reducible refine A1.out.mono ?_; rintro e w1 ⟨rfl, rfl⟩)
          | (go_at_call 86; with_reducible refine A2.out.mono ?_; rintro e w1 ⟨rfl, rfl⟩))
        go_round
        case rel => exact ⟨k + 1, by omega, by omega, by go_num, hall2⟩
        case measure => simp [intOf]; omega
      · have h1' : s.cur.now.has k = false := by simpa using h1
        rw [h1'] at A1
        by_cases h2 : s.kept.has k = true
        · have hf : s.free k = false := by simp [Sto.free, h2]
          rw [h2] at A2
          have hall2 := Lib.hid (show ∀ q, 2 ≤ q → q < k + 1 → s.free q = false from fun q h1 h2 => by
            by_cases e : q = k
            · rw [e]; exact hf
            · exact hall.out q h1 (by omega))
          clear h1 h1' h2 hf
          go_wp2_with (first
            | (go_at_call 86; with_reducible refine A1.out.mono ?_; rintro e w1 ⟨rfl, rfl⟩)
            | (go_at_call 86; with_reducible refine A2.out.mono ?_; rintro e w1 ⟨rfl, rfl⟩))
          go_round
          case rel => exact ⟨k + 1, by omega, by omega, by go_num, hall2⟩
          case measure => simp [intOf]; omega
        · have h2' : s.kept.has k = false := by simpa using h2
          have hf : Hid (s.free k = true) := Lib.hid (by simp [Sto.free, h1', h2'])
          rw [h2'] at A2
          clear h1 h1' h2 h2'
          go_wp2_with (first
            | (go_at_call 86; with_reducible refine A1.out.mono ?_; rintro e w1 ⟨rfl, rfl⟩)
            | (go_at_call 86; with_reducible refine A2.out.mono ?_; rintro e w1 ⟨rfl, rfl⟩))
          go_ret
          exact ⟨⟨k, .inr ⟨hk2, hlt, hf.out, hall.out⟩, rfl⟩, rfl⟩
    · have hge : ¬ (k : Int) < (s.n : Int) := by omega
      have R := Lib.hid (show IsSpare s 0 from .inl ⟨rfl, fun q h1 h2 => hall.out q h1 (by omega)⟩)
      go_wp2
      go_ret
      exact ⟨⟨0, R.out, rfl⟩, rfl⟩
end
theorem foldl_put (off : Nat) : ∀ (vs : List Value) (k : Nat) (a : Array Value), off + k + vs.length ≤ a.size →
    ((vs.zipIdx k).foldl (fun (cs : Array Value) (x : Value × Nat) => cs.setIfInBounds (off + x.2) x.1) a).toList = a.toList.take (off + k) ++ (vs ++ a.toList.drop (off + k + vs.length))
  | [], k, a, h => by simp
  | v :: vs, k, a, h => by
    rw [List.length_cons] at h
    rw [List.zipIdx_cons, List.foldl_cons, foldl_put off vs (k + 1) _ (by simp; omega)]
    have hl : off + k < a.toList.length := by simp; omega
    have e : (a.setIfInBounds (off + k) v).toList = a.toList.set (off + k) v := by simp
    simp only [e]
    rw [show off + (k + 1) = off + k + 1 by omega, List.take_succ_eq_append_getElem (by simp; omega), List.take_set_of_le (Nat.le_refl _)]
    rw [List.getElem_set_self, List.drop_set_of_lt (by omega)]
    simp only [List.append_assoc, List.cons_append, List.nil_append, List.length_cons]
    rw [show off + k + 1 + vs.length = off + k + (vs.length + 1) by omega]
theorem fill_one (place : Nat → Option (Nat × Nat)) (cells : Array Value) (i : Nat) (v : Value) (rest : List (Nat × Value)) (off : Nat) (hp : place i = some (off, v.cells.size)) (hs : off + v.cells.size ≤ cells.size) :
    Instr.fill place cells ((i, v) :: rest) = Instr.fill place (cells.toList.take off ++ (v.cells.toList ++ cells.toList.drop (off + v.cells.size))).toArray rest := by
  rw [Instr.fill, hp]
  simp only [ne_eq, not_true_eq_false, decide_false, Bool.false_or, decide_eq_true_eq]
  rw [if_neg (by simp; omega)]
  have := foldl_put off v.cells.toList 0 cells (by simp; omega)
  rw [Nat.add_zero] at this
  rw [← Array.foldl_toList, Array.toList_zipIdx]
  refine congrArg (fun a => Instr.fill place a rest) ?_
  apply Array.toList_inj.1
  rw [List.toList_toArray, ← Array.length_toList]
  exact this
def zs : List Value := .int .i64 0 :: List.replicate 512 (.int .u8 0)
def z77 : List Value := zs ++ (zs ++ [.map none, .bool false, .slice none 0 0, .slice none 0 0])
theorem zs_len : zs.length = 513 := by kernel_rfl
theorem z77_len : z77.length = 1030 := by kernel_rfl
theorem zinfo77 : (Tryz.prog.info? 97).map (fun i => (i.zero, i.size)) = some (some (.agg z77.toArray), 1030) := by kernel_rfl
theorem sizeOf_of {t : TypeId} {n : Nat} (h : (Tryz.prog.info? t).map (·.size) = some n) (W : World) : (Go.sizeOf t).run Tryz.prog W = .ok n W := by
  cases hq : Tryz.prog.info? t with
  | none => simp [hq] at h
  | some i => simp [hq] at h; simp [Go.sizeOf, typeInfo, hq, h]
theorem size73 (W : World) : (Go.sizeOf 92).run Tryz.prog W = .ok 513 W := sizeOf_of (by kernel_rfl) W
theorem size67 (W : World) : (Go.sizeOf 93).run Tryz.prog W = .ok 1 W := sizeOf_of (by kernel_rfl) W
theorem size4 (W : World) : (Go.sizeOf 4).run Tryz.prog W = .ok 1 W := sizeOf_of (by kernel_rfl) W
theorem size74 (W : World) : (Go.sizeOf 94).run Tryz.prog W = .ok 1 W := sizeOf_of (by kernel_rfl) W
theorem size75 (W : World) : (Go.sizeOf 95).run Tryz.prog W = .ok 1 W := sizeOf_of (by kernel_rfl) W
theorem build77 (A B : List Value) (hA : A.length = 513) (hB : B.length = 513) (b : Nat) (W : World) :
    (Instr.build 97 #[(0, .agg A.toArray), (1, .agg B.toArray), (2, .map (some b))]).run Tryz.prog W = .ok (.agg (A ++ (B ++ [Value.map (some b), Value.bool false, Value.slice none 0 0, Value.slice none 0 0])).toArray) W := by
  have hz := (zero_of_info zinfo77).1 W
  have hzl := z77_len
  have hzz : z77 = zs ++ (zs ++ [Value.map none, Value.bool false, Value.slice none 0 0, Value.slice none 0 0]) := rfl
  have hsl := zs_len
  generalize z77 = z at hz hzl hzz
  generalize zs = y at hzz hsl
  simp only [Instr.build, Sem.run_bind, hz, Result.andThen_ok, Value.cells, run_underlying Tryz.underlying97]
  simp [size73, size67, size4, size74, size75]
  have e1 : z.take 0 ++ (A ++ z.drop (0 + 513)) = A ++ (y ++ [Value.map none, Value.bool false, Value.slice none 0 0, Value.slice none 0 0]) := by
    rw [hzz, List.take_zero, List.nil_append, Nat.zero_add, List.drop_left' hsl]
  have e2 : (A ++ (y ++ [Value.map none, Value.bool false, Value.slice none 0 0, Value.slice none 0 0])).take 513 ++ (B ++ (A ++ (y ++ [Value.map none, Value.bool false, Value.slice none 0 0, Value.slice none 0 0])).drop (513 + 513)) = A ++ (B ++ [Value.map none, Value.bool false, Value.slice none 0 0, Value.slice none 0 0]) := by
    rw [List.take_left' hA, ← List.append_assoc A y, List.drop_left' (by rw [List.length_append]; omega)]
  have e3 : (A ++ (B ++ [Value.map none, Value.bool false, Value.slice none 0 0, Value.slice none 0 0])).take 1026 ++ ([Value.map (some b)] ++ (A ++ (B ++ [Value.map none, Value.bool false, Value.slice none 0 0, Value.slice none 0 0])).drop (1026 + 1)) = A ++ (B ++ [Value.map (some b), Value.bool false, Value.slice none 0 0, Value.slice none 0 0]) := by
    have hAB : (A ++ B).length = 1026 := by rw [List.length_append]; omega
    have hd : ∀ (x : Value) (r : List Value), ((A ++ B) ++ (x :: r)).drop (1026 + 1) = r := fun x r => by
      rw [show (A ++ B) ++ (x :: r) = ((A ++ B) ++ [x]) ++ r by simp, List.drop_left' (by rw [List.length_append, hAB]; rfl)]
    rw [← List.append_assoc A B, List.take_left' hAB, hd, List.append_assoc]
    rfl
  rw [fill_one _ _ 0 (.agg A.toArray) _ 0 (by simp [Value.cells, hA]) (by simp [Value.cells, hA, hzl])]
  simp only [Value.cells, List.size_toArray, hA]
  rw [e1]
  rw [fill_one _ _ 1 (.agg B.toArray) _ 513 (by simp [Value.cells, hB]) (by simp [Value.cells, hA, hB, hsl])]
  simp only [Value.cells, List.size_toArray, hB]
  rw [e2]
  rw [fill_one _ _ 2 (.map (some b)) _ 1026 (by simp [Value.cells]) (by simp [Value.cells, hA, hB])]
  simp only [Value.cells, List.size_toArray, List.length_cons, List.length_nil]
  rw [e3]
  rfl
def scs (t : Sta) : List Value := (List.range 513).map (stc t)
theorem scs_len (t : Sta) : (scs t).length = 513 := by simp [scs]
theorem scs_at (t : Sta) (j : Nat) (hj : j < 513) : (scs t)[j]? = some (stc t j) := by simp [scs, hj]
theorem info73 (t : Sta) : (Tryz.prog.info? 92).map (·.size) = some (scs t).length := by rw [scs_len]; kernel_rfl
theorem StaAt.range {w : World} {b o : Nat} {t : Sta} (h : StaAt w b o t) : w.rangeAt b o (scs t) := fun j v hv => by
  have hj : j < 513 := by have := (List.getElem?_eq_some_iff.1 hv).1; rwa [scs_len] at this
  rw [scs_at t j hj] at hv
  injection hv with hv; subst hv
  exact h j hj
theorem one_scs (t : Sta) : ∀ v ∈ scs t, v.oneCell' = true := by
  intro v hv
  simp only [scs, List.mem_map] at hv
  obtain ⟨j, _, rfl⟩ := hv
  unfold stc; split <;> rfl
section
variable {w w' : World} {sb db : Nat} {y : SLay} {s : Sto}
theorem rowIs_setCells {b : Nat} {t : TypeId} {n : Nat} : ∀ (vs : List Value) (o : Nat) (f : Nat → Value) {w : World}, w.rowIs b t n f → (w.setCells b o vs).rowIs b t n (fun j => if o ≤ j then (vs[j - o]?).getD (f j) else f j)
  | [], o, f, w, h => h.congr fun j hj => by simp
  | v :: vs, o, f, w, h => by
    refine (rowIs_setCells vs (o + 1) _ (h.set o v)).congr fun j hj => ?_
    rcases Nat.lt_trichotomy j o with e | e | e
    · rw [if_neg (by omega), if_neg (by omega), if_neg (by omega)]
    · subst e
      rw [if_neg (by omega), if_pos rfl, if_pos (Nat.le_refl _), Nat.sub_self]; rfl
    · rw [if_pos (show o + 1 ≤ j by omega), if_pos (show o ≤ j by omega), if_neg (show ¬ j = o by omega)]
      rw [show j - o = (j - (o + 1)) + 1 by omega]; rfl
theorem setCells_fr (b : Nat) : ∀ (vs : List Value) (o : Nat) (w : World), Fr (fun k => k = b) w (w.setCells b o vs)
  | [], o, w => Fr.refl _ _
  | v :: vs, o, w => (Fr.setCell (F := fun k => k = b) w ⟨b, o, none⟩ (fun _ => rfl) v).trans (setCells_fr b vs (o + 1) _) fun _ _ e => e
theorem rowIs_there {b : Nat} {t : TypeId} {n : Nat} {f : Nat → Value} (h : w.rowIs b t n f) (o k : Nat) (hk : o + k ≤ n) : w.there b o k := fun j hj => ⟨by rw [h.cell (by omega)]; rfl, h.frozen _⟩
def bcell (t : Sta) (fm : Nat) (i : Nat) : Value := if i < 513 then stc t i else if i < 1026 then stc t (i - 513) else if i = 1026 then .map (some fm) else if i = 1027 then .bool false else .slice none 0 0
theorem wpList_build {ops : Array Oper} {rest : List Oper} {o : Oper} {a : Act} {w : World} {Q : Exit → Act → World → Prop} (hgd : o.guard = none) (t : TypeId) (parts : Array (Nat × Operand)) (ho : o.op = .build t parts) (vs : List (Nat × Value)) (hv : parts.toList.map (fun p => (p.1, a.eval p.2)) = vs) (v : Value) (hrun : (Instr.build t vs.toArray).run Tryz.prog w = .ok v w)
    (h : wpList Tryz.prog ops Q rest (a.put o.dst v) w) : wpList Tryz.prog ops Q (o :: rest) a w := by
  have hv2 : parts.map (fun p => (p.1, a.eval p.2)) = vs.toArray := by
    apply Array.toList_inj.1
    rw [Array.toList_map, hv]
  refine wpList_plain hgd fun K hK => ?_
  unfold Oper.wp execOp
  have hv3 : (parts.map fun x => match x with | (i, x) => (i, a.eval x)) = vs.toArray := hv2
  simp only [ho, hv3, Sem.run_bind, Sem.run_pure, Result.andThen_ok, hrun]
  exact hK _ _ h
set_option maxHeartbeats 1000000 in
theorem begin_row (f : Nat → Value) (t : Sta) (h : w.rowIs sb 100 1034 f) :
    Calls Tryz.prog 47 #[pt sb, .agg (scs t).toArray] w fun e w' => e = .returned (.tuple #[]) ∧ w'.rowIs sb 100 1034 (fun i => if i < 1030 then bcell t (w.heap.size + 1) i else f i) ∧ MapN w' (w.heap.size + 1) 0 (fun _ => none) ∧ Fr (fun k => k = sb) w w' := by
  have hlt := h.lt
  obtain ⟨W1, hW1⟩ : ∃ W1, W1 = w.alloc (.cells (scs t).toArray 92) := ⟨_, rfl⟩
  have hr : W1.rangeAt w.heap.size 0 (scs t) := fun j v hv => by
    rw [hW1, Nat.zero_add, cell_of_row _ _ _ _ _ _ (heap_alloc_new w _)]
    simpa using hv
  obtain ⟨L, hL⟩ : ∃ L, L = scs t ++ (scs t ++ [Value.map (some (w.heap.size + 1)), Value.bool false, Value.slice none 0 0, Value.slice none 0 0]) := ⟨_, rfl⟩
  have hLl : L.length = 1030 := by rw [hL]; simp [scs_len]
  have hb : ∀ W, (Instr.build 97 #[(0, .agg (scs t).toArray), (1, .agg (scs t).toArray), (2, .map (some (w.heap.size + 1)))]).run Tryz.prog W = .ok (.agg L.toArray) W := fun W => hL ▸ build77 (scs t) (scs t) (scs_len t) (scs_len t) _ W
  have hro : (W1.alloc (.map #[] 0)).rowIs sb 100 1034 f := (hW1 ▸ h.alloc _).alloc _
  have hI : (Tryz.prog.info? 97).map (·.size) = some L.toArray.size := by simp only [List.size_toArray, hLl]; kernel_rfl
  have ht := rowIs_there hro 0 L.toArray.size (by simp [hLl])
  have h1 : L.toArray.all (·.oneCell') = true := all_oneCell_toArray (fun v hv => by
    rw [hL] at hv
    simp only [List.mem_append, List.mem_cons, List.not_mem_nil, or_false] at hv
    rcases hv with hv | hv | rfl | rfl | rfl | rfl <;> first | exact one_scs t v hv | rfl)
  have hmm := @run_makeMap Tryz.prog
  have HL := Lib.hid (And.intro hr (And.intro (info73 t) (And.intro hI (And.intro ht h1))))
  have HR := Lib.hid (rowIs_setCells L 0 f hro)
  have HM := Lib.hid (MapN.made W1)
  have hLat : ∀ j, j < 1030 → L[j]? = some (bcell t (w.heap.size + 1) j) := fun j hj => by
    unfold bcell
    rw [hL]
    by_cases h1 : j < 513
    · rw [if_pos h1, List.getElem?_append_left (by rw [scs_len]; exact h1), scs_at t j h1]
    · rw [if_neg h1, List.getElem?_append_right (by rw [scs_len]; omega), scs_len]
      by_cases h2 : j < 1026
      · rw [if_pos h2, List.getElem?_append_left (by rw [scs_len]; omega), scs_at t _ (by omega)]
      · rw [if_neg h2, List.getElem?_append_right (by rw [scs_len]; omega), scs_len]
        rcases (by omega : j = 1026 ∨ j = 1027 ∨ j = 1028 ∨ j = 1029) with rfl | rfl | rfl | rfl <;> rfl
  have HB := Lib.hid (And.intro hLat hLl)
  have hz1 : W1.heap.size = w.heap.size + 1 := by rw [hW1]; simp
  have HF := Lib.hid (show Fr (fun k => k = sb) w ((W1.alloc (.map #[] 0)).setCells sb 0 L) from ((hW1 ▸ Fr.alloc w _ : Fr (fun k => k = sb) w W1).trans (Fr.alloc W1 _) fun _ _ e => e).trans (setCells_fr sb L 0 _) fun _ _ e => e)
  have HZ := Lib.hid hz1
  rw [hz1] at HM
  generalize scs t = cs at hW1 hb HL HB
  have HLT := Lib.hid hlt
  have HW := Lib.hid hW1
  have HBD := Lib.hid hb
  clear hb
  clear h hr hro hI ht h1 hL hLl hlt hW1
  go_enter Tryz.func47, Tryz.ntmps47
  go_wp2_with (first
    | (rw [← HW.out]; refine wpList_load_mid rfl 92 _ rfl w.heap.size 0 rfl _ _ HL.out.1 Tryz.underlying92 rfl HL.out.2.1 ?_)
    | (refine wpList_load_mid rfl 92 _ rfl w.heap.size 0 rfl _ _ HL.out.1 Tryz.underlying92 rfl HL.out.2.1 ?_)
    | (refine wpList_build rfl 97 _ rfl [(0, .agg cs.toArray), (1, .agg cs.toArray), (2, .map (some (w.heap.size + 1)))] rfl _ (HBD.out _) ?_)
    | (refine wpList_store_mid rfl 97 _ _ rfl sb 0 _ rfl rfl HL.out.2.2.2.1 HL.out.2.2.1 HL.out.2.2.2.2 ?_))
  first | go_end0 | (simp only [Exit.inBlock, Exit.then]; refine bodyPost_ret (results_none rfl _ _ _) rfl ?_) | refine bodyPost_ret (results_none rfl _ _ _) rfl ?_
  refine ⟨rfl, HR.out.congr fun j hj => ?_, HM.out.of_block ((setCells_fr sb L 0 _).block _ (by simp [HZ.out]) (fun e => by have := HLT.out; omega)), HF.out⟩
  rw [if_pos (Nat.zero_le _), Nat.sub_zero]
  by_cases e : j < 1030
  · rw [if_pos e, HB.out.1 j e]; rfl
  · rw [if_neg e, List.getElem?_eq_none (by rw [HB.out.2]; omega)]; rfl
theorem IsS.begun {w' : World} {sb db : Nat} {role : Nat → Option SRole} {s : Sto} {f : Nat → Value} {fm m : Nat} {t : Sta} (hrow : w'.rowIs sb 100 1034 (fun i => if i < 1030 then bcell t fm i else f i)) (hf : ∀ i, 1030 ≤ i → i < 1034 → f i = scell ⟨fm, m, fun _ => none, .slice none 0 0, .slice none 0 0, [], role⟩ db s i)
    (hm : MapN w' fm 0 (fun _ => none)) (hrs : role sb = some .store) (hrf : role fm = some .fresh) (hft : ∀ k, role k ≠ none → k < w'.heap.size) : IsS w' sb ⟨fm, m, fun _ => none, .slice none 0 0, .slice none 0 0, [], role⟩ db (s.begin t) :=
  { row := hrow.congr fun j hj => by
      by_cases e : j < 1030
      · rw [if_pos e]; unfold bcell scell
        by_cases h1 : j < 513
        · rw [if_pos h1, if_pos h1]; rfl
        · rw [if_neg h1, if_neg h1]
          by_cases h2 : j < 1026
          · rw [if_pos h2, if_pos h2]; rfl
          · rw [if_neg h2, if_neg h2]
            rcases (by omega : j = 1026 ∨ j = 1027 ∨ j = 1028 ∨ j = 1029) with rfl | rfl | rfl | rfl <;> rfl
      · rw [if_neg e, hf j (by omega) hj]
        rcases (by omega : j = 1030 ∨ j = 1031 ∨ j = 1032 ∨ j = 1033) with rfl | rfl | rfl | rfl <;> rfl
    map := hm.mono (Nat.zero_le _), freshOk := fun p hp => trivial
    marksOk := ⟨rfl, .inl ⟨rfl, rfl⟩⟩, undoOk := ⟨rfl, .inl ⟨rfl, rfl⟩⟩
    unAt := fun i v x h1 h2 => by simp [Sto.begin] at h2
    rs := hrs, rf := hrf, rm := fun k e => (by cases e), ru := fun k e => (by cases e)
    foot := hft, usLen := Nat.zero_le _, msLen := Nat.zero_le _ }
end
section
variable {w w' : World} {sb db : Nat} {y : SLay} {s : Sto} {yd : Dk.Lay} {d : Dk.Dsk}
theorem wpStill_load {ops : Array Oper} {Q : Act → Prop} {rest : List Oper} {op : Oper} {a : Act} (hgd : op.guard = none) (ty : TypeId) (x : Operand) (ho : op.op = .load ty x)
    (b o : Nat) (hx : a.eval x = .pointer (some ⟨b, o, none⟩)) (cs : List Value) (dd : TypeDesc) (hc : w.rangeAt b o cs)
    (hu : Tryz.prog.underlying ty = some dd) (hd : dd.isRow = true) (hi : (Tryz.prog.info? ty).map (·.size) = some cs.length)
    (h : wpStill Tryz.prog ops w Q rest (a.put op.dst (.agg cs.toArray))) : wpStill Tryz.prog ops w Q (op :: rest) a :=
  wpStill_step fun K hK => by
    rw [if_pos (by simp [Region.wanted, hgd])]
    unfold Oper.still execOp
    simp only [ho, hx, Instr.loadAt, Instr.sureAddr, Sem.run_bind, Sem.run_pure, Result.andThen_ok, run_loadVar_mid w b o ty cs dd hc hu hd hi]
    exact ⟨rfl, hK _ h⟩
end
section
variable {w w' : World} {sb db : Nat} {y : SLay} {s : Sto} {yd : Dk.Lay} {d : Dk.Dsk}
theorem enter65 (args : Array Value) (W : World) : (callFunc 79 args).run Tryz.prog W = .ok (.enter 79 args) W := by kernel_rfl
theorem enter66 (args : Array Value) (W : World) : (callFunc 51 args).run Tryz.prog W = .ok (.enter 51 args) W := by kernel_rfl
def Sto.left (s : Sto) : Nat := s.n - 2 - cntTo s.used 4096
theorem root1_any (h : IsS w sb y db s) (p q : Addr) (v : Value) (hp : w.cell? p = some (pt sb)) (hq : w.cell? q = some v) (fq : w.frozen? q = false) :
    Calls Tryz.prog 79 #[.pointer (some p), .pointer (some q)] w fun e w' => ∃ r, e = .returned (.int .i64 r) ∧ r = 0 ∧ w' = w.setCell q (.int .i64 (s.cur.now.root : Int)) := by
  have hc := h.croot
  clear h
  go_enter Tryz.func79, Tryz.ntmps79
  go_wp2
  go_ret
  exact ⟨_, rfl, rfl, rfl⟩
theorem left1_any (h : IsS w sb y db s) (hd : IsD w db yd d) (hn : s.n = d.n) (h5 : s.n ≤ 4096) (hle : cntTo s.used 4096 + 2 ≤ s.n) (p q : Addr) (v : Value) (hp : w.cell? p = some (pt sb)) (hq : w.cell? q = some v) (fq : w.frozen? q = false) :
    Calls Tryz.prog 51 #[.pointer (some p), .pointer (some q)] w fun e w' => ∃ r, e = .returned (.int .i64 r) ∧ r = 0 ∧ w' = (w.setCell q (.int .i64 (s.left : Int))).drew := by
  have hc := h.cdisk
  have b1 := busy_any h.drew
  have b2 := Dk.size_any (w := w.drew) hd.drew
  rw [← hn] at b2
  have hl : (s.left : Int) = (s.n : Int) - 2 - (cntTo s.used 4096 : Nat) := by unfold Sto.left; omega
  rw [hl]
  have i1 : wrap64 ((s.n : Int) - 2 - (cntTo s.used 4096 : Nat)) = (s.n : Int) - 2 - (cntTo s.used 4096 : Nat) := by unfold wrap64; omega
  have i2 : wrap64 ((s.n : Int) - 2) = (s.n : Int) - 2 := by unfold wrap64; omega
  have I1 := Lib.hid i1
  have I2 := Lib.hid i2
  generalize cntTo s.used 4096 = cn at b1 I1 hle
  generalize s.n = sn at b2 I1 I2 hle h5
  clear h hd hn hl i1 i2 hle h5
  go_enter Tryz.func51, Tryz.ntmps51
  go_wp2
  go_still_tail 11, (by kernel_rfl)
  still_call b2
  repeat still_step
  still_call b1
  repeat still_step
  refine wpStill_nil ?_
  change wpList _ _ _ _ _ w.drew
  go_wp2
  rw [I2.out, I1.out]
  go_ret
  exact ⟨_, rfl, rfl, rfl⟩
theorem frozen_new (w : World) (v : Value) (t : TypeId) : (w.alloc (.cells #[v] t)).frozen? ⟨w.heap.size, 0, none⟩ = false :=
  (World.rowIs_alloc w #[v] t (fun _ => v) (fun i hi => by
    have : i = 0 := by simp at hi; omega
    subst this; rfl)).frozen 0
structure Bx2 (w W : World) (v1 v2 : Value) : Prop where
  c1 : W.cell? ⟨w.heap.size, 0, none⟩ = some v1
  c2 : W.cell? ⟨w.heap.size + 1, 0, none⟩ = some v2
  f2 : W.frozen? ⟨w.heap.size + 1, 0, none⟩ = false
  bel : Below w.heap.size w W
  sz : W.heap.size = w.heap.size + 2
theorem bx2 (w : World) (v1 v2 : Value) (t1 t2 : TypeId) : Bx2 w ((w.alloc (.cells #[v1] t1)).alloc (.cells #[v2] t2)) v1 v2 :=
  ⟨cell_alloc (cell_alloc_new w _ _) _, by have := cell_alloc_new (w.alloc (.cells #[v1] t1)) v2 t2; rwa [size_alloc'] at this,
   by have := frozen_new (w.alloc (.cells #[v1] t1)) v2 t2; rwa [size_alloc'] at this, ((Below.refl w.heap.size w).alloc (Nat.le_refl _) _).alloc (by simp) _, by simp⟩
structure Bx3 (w W : World) (v1 v2 v3 : Value) : Prop where
  c1 : W.cell? ⟨w.heap.size, 0, none⟩ = some v1
  c2 : W.cell? ⟨w.heap.size + 1, 0, none⟩ = some v2
  c3 : W.cell? ⟨w.heap.size + 2, 0, none⟩ = some v3
  f3 : W.frozen? ⟨w.heap.size + 2, 0, none⟩ = false
  bel : Below w.heap.size w W
  sz : W.heap.size = w.heap.size + 3
theorem bx3 (w : World) (v1 v2 v3 : Value) (t1 t2 t3 : TypeId) : Bx3 w (((w.alloc (.cells #[v1] t1)).alloc (.cells #[v2] t2)).alloc (.cells #[v3] t3)) v1 v2 v3 :=
  ⟨cell_alloc (bx2 w v1 v2 t1 t2).c1 _, cell_alloc (bx2 w v1 v2 t1 t2).c2 _, by have := cell_alloc_new ((w.alloc (.cells #[v1] t1)).alloc (.cells #[v2] t2)) v3 t3; rwa [(bx2 w v1 v2 t1 t2).sz] at this,
   by have := frozen_new ((w.alloc (.cells #[v1] t1)).alloc (.cells #[v2] t2)) v3 t3; rwa [(bx2 w v1 v2 t1 t2).sz] at this, (bx2 w v1 v2 t1 t2).bel.alloc (by simp; omega) _, by simp⟩
theorem ask_gone (h : IsS w sb y db s) (hd : IsD w db yd d) (F : Nat) (cap : Array Value) (hin : ∀ W, (callFunc F cap).run Tryz.prog W = .ok (.enter F cap) W) (hg : gone s d = true) :
    Calls Tryz.prog 44 #[pt sb, .func (.func F) #[] cap] w fun e w' => e = .returned (.int .i64 9) ∧ w' = w := by
  refine (ask_any h hd F cap hin (fun _ _ => True) (fun e => by rw [hg] at e; cases e)).mono ?_
  rintro e w' (⟨_, h1, h2⟩ | ⟨h1, _⟩)
  · exact ⟨h1, h2⟩
  · rw [hg] at h1; cases h1
theorem ask_yes (h : IsS w sb y db s) (hd : IsD w db yd d) (F : Nat) (cap : Array Value) (hin : ∀ W, (callFunc F cap).run Tryz.prog W = .ok (.enter F cap) W) (hg : gone s d = false) {Q : Int → World → Prop} (hf : Calls Tryz.prog F cap w fun e w' => ∃ r, e = .returned (.int .i64 r) ∧ Q r w') :
    Calls Tryz.prog 44 #[pt sb, .func (.func F) #[] cap] w fun e w' => ∃ r, e = .returned (.int .i64 r) ∧ Q r w' := by
  refine (ask_any h hd F cap hin Q (fun _ => hf)).mono ?_
  rintro e w' (⟨h1, _⟩ | ⟨_, h1⟩)
  · rw [hg] at h1; cases h1
  · exact h1
set_option maxHeartbeats 1000000 in
theorem Root_any (h : IsS w sb y db s) (hd : IsD w db yd d) :
    Calls Tryz.prog 49 #[pt sb] w fun e w' => e = .returned (.int .i64 (if gone s d then 0 else (s.cur.now.root : Int))) ∧ Below w.heap.size w w' := by
  obtain ⟨W, hW⟩ : ∃ W, W = (w.alloc (.cells #[pt sb] 23)).alloc (.cells #[.int .i64 0] 3) := ⟨_, rfl⟩
  have hx : Bx2 w W (pt sb) (.int .i64 0) := hW ▸ bx2 w _ _ _ _
  have hI := h.below hx.bel
  have hD := hd.below hx.bel
  have HX := Lib.hid hx
  have HW := Lib.hid hW
  have a2 := hx.c2
  have hmk := hmf
  by_cases hg : gone s d = true
  · have HA := Lib.hid (ask_gone hI hD 79 #[.pointer (some ⟨w.heap.size, 0, none⟩), .pointer (some ⟨w.heap.size + 1, 0, none⟩)] (enter65 _) hg)
    rw [hg]
    clear hx hW hI hD h hd hg
    go_enter Tryz.func49, Tryz.ntmps49
    go_wp2_with (go_at_call 44; rw [← HW.out]; refine HA.out.mono ?_; rintro e w1 ⟨rfl, rfl⟩)
    go_ret
    exact ⟨rfl, HX.out.bel⟩
  · have hg' : gone s d = false := by simpa using hg
    have HA := Lib.hid (ask_yes hI hD 79 #[.pointer (some ⟨w.heap.size, 0, none⟩), .pointer (some ⟨w.heap.size + 1, 0, none⟩)] (enter65 _) hg' (root1_any hI _ _ _ hx.c1 hx.c2 hx.f2))
    rw [hg']
    have a3 := World.cell?_setCell_same W _ (.int .i64 (s.cur.now.root : Int)) a2
    have HB := Lib.hid (hx.bel.setCell (p := ⟨w.heap.size + 1, 0, none⟩) (by simp) (.int .i64 (s.cur.now.root : Int)))
    clear hx hW hI hD h hd hg hg' a2
    go_enter Tryz.func49, Tryz.ntmps49
    go_wp2_with (go_at_call 44; rw [← HW.out]; refine HA.out.mono ?_; rintro e w1 ⟨r, rfl, rfl, rfl⟩)
    go_ret
    exact ⟨rfl, HB.out⟩
set_option maxHeartbeats 1000000 in
theorem Left_any (h : IsS w sb y db s) (hd : IsD w db yd d) (hn : s.n = d.n) (h5 : s.n ≤ 4096) (hle : cntTo s.used 4096 + 2 ≤ s.n) :
    Calls Tryz.prog 24 #[pt sb] w fun e w' => e = .returned (.int .i64 (if gone s d then 0 else (s.left : Int))) ∧ Below w.heap.size w w' := by
  obtain ⟨W, hW⟩ : ∃ W, W = (w.alloc (.cells #[pt sb] 23)).alloc (.cells #[.int .i64 0] 3) := ⟨_, rfl⟩
  have hx : Bx2 w W (pt sb) (.int .i64 0) := hW ▸ bx2 w _ _ _ _
  have hI := h.below hx.bel
  have hD := hd.below hx.bel
  have HX := Lib.hid hx
  have HW := Lib.hid hW
  have a2 := hx.c2
  have hmk := hmf
  by_cases hg : gone s d = true
  · have HA := Lib.hid (ask_gone hI hD 51 #[.pointer (some ⟨w.heap.size, 0, none⟩), .pointer (some ⟨w.heap.size + 1, 0, none⟩)] (enter66 _) hg)
    rw [hg]
    clear hx hW hI hD h hd hg hn h5 hle
    go_enter Tryz.func24, Tryz.ntmps24
    go_wp2_with (go_at_call 44; rw [← HW.out]; refine HA.out.mono ?_; rintro e w1 ⟨rfl, rfl⟩)
    go_ret
    exact ⟨rfl, HX.out.bel⟩
  · have hg' : gone s d = false := by simpa using hg
    have HA := Lib.hid (ask_yes hI hD 51 #[.pointer (some ⟨w.heap.size, 0, none⟩), .pointer (some ⟨w.heap.size + 1, 0, none⟩)] (enter66 _) hg' (left1_any hI hD hn h5 hle _ _ _ hx.c1 hx.c2 hx.f2))
    rw [hg']
    have a3 := World.cell?_setCell_same W _ (.int .i64 (s.left : Int)) a2
    have HB := Lib.hid (hx.bel.setCell (p := ⟨w.heap.size + 1, 0, none⟩) (by simp) (.int .i64 (s.left : Int))).drew
    clear hx hW hI hD h hd hg hg' a2 hn h5 hle
    go_enter Tryz.func24, Tryz.ntmps24
    go_wp2_with (go_at_call 44; rw [← HW.out]; refine HA.out.mono ?_; rintro e w1 ⟨r, rfl, rfl, rfl⟩)
    go_ret
    exact ⟨rfl, HB.out⟩
end
end Go.Proofs.YtcjokkjepgfinaaGreatDoor.Sk
namespace Go.Proofs.YtcjokkjepgfinaaGreatDoor.Sk
set_option maxRecDepth 8000
open Go.RowKit Mem Go.ChangeMaps
open Dk (cod elem cod_inj elem_mk elem_inv key key_inj wf_key keyed3 MapIs Fr ptr hmf cell_alloc cell_alloc_new zero42 IsD Dsk Lay drewN_cell)
section
variable {w w' : World} {sb db : Nat} {y : SLay} {s : Sto} {yd : Dk.Lay} {d : Dk.Dsk}
theorem enter59 (args : Array Value) (W : World) : (callFunc 124 args).run Tryz.prog W = .ok (.enter 124 args) W := by kernel_rfl
theorem enter57 (args : Array Value) (W : World) : (callFunc 129 args).run Tryz.prog W = .ok (.enter 129 args) W := by kernel_rfl
theorem hasN (h : IsS w sb y db s) (r : Int) : ∀ n, Calls Tryz.prog 86 #[pt sb, .int .i64 r] (w.drewN n) fun e w' => e = .returned (.bool (s.cur.now.hasI r)) ∧ w' = w.drewN n := fun n => has_any (w.drewN n) sb 0 s.cur.now r (h.drewN n).now
theorem Ks.drewN (h : IsS w sb y db s) (n : Nat) : Ks w y (w.drewN n) y := Ks.ofBelow h (below_drewN (Below.refl _ w) n)
set_option maxHeartbeats 1000000 in
theorem setRoot1_bad (h : IsS w sb y db s) (p q : Addr) (r : Int) (hp : w.cell? p = some (.int .i64 r)) (hq : w.cell? q = some (pt sb)) (h0 : r ≠ 0) (hb : s.cur.now.hasI r = false) :
    Calls Tryz.prog 124 #[.pointer (some p), .pointer (some q)] w fun e w' => ∃ t, e = .returned (.int .i64 t) ∧ t = 1 ∧ ∃ n, w' = w.drewN n := by
  have b1 := hasN h r
  rw [hb] at b1
  have B1 := Lib.hid b1
  have h0' : (r != 0) = true := by simp [h0]
  clear h hb h0 b1
  go_enter Tryz.func124, Tryz.ntmps124
  go_wp2
  go_quiet (first | (go_at_call 86; refine Calls.quiet_of_same (B1.out _)))
  go_wp2
  go_ret
  exact ⟨_, rfl, rfl, _, rfl⟩
set_option maxHeartbeats 1000000 in
theorem setRoot1_ok (h : IsS w sb y db s) (p q : Addr) (r : Nat) (hp : w.cell? p = some (.int .i64 (r : Int))) (hq : w.cell? q = some (pt sb)) (hb : r = 0 ∨ s.cur.now.hasI r = true) (hm : y.m < 100000000) :
    Calls Tryz.prog 124 #[.pointer (some p), .pointer (some q)] w fun e w' => ∃ t, e = .returned (.int .i64 t) ∧ t = 0 ∧ ∃ y', IsS w' sb y' db (s.setRoot r) ∧ Ks w y w' y' ∧ y'.m ≤ y.m + 2 := by
  have H := Lib.hid h
  by_cases h0 : r = 0
  · subst h0
    have hp' : w.cell? p = some (.int .i64 0) := hp
    clear h hp hb
    go_enter Tryz.func124, Tryz.ntmps124
    go_wp2
    go_quiet (fail)
    go_wp2
    have v1 := (drewN_cell w nq p).trans hp'
    have v2 := (drewN_cell w nq q).trans hq
    have C := Lib.hid (csetRoot_any (H.out.drewN nq).drew 0 hm)
    have K0 := Lib.hid ((Ks.drewN H.out nq).drew)
    clear H hq hp'
    generalize w.drewN nq = V at v1 v2 C K0 ⊢
    go_still_tail 4, (by kernel_rfl)
    change wpList _ _ _ _ _ V.drew
    go_wp2_with (go_at_call 125; refine C.out.mono ?_; rintro e w1 ⟨rfl, y1, h1, k1, m1⟩; have H1 := Lib.hid h1; have K1 := Lib.hid k1; clear h1 k1)
    go_ret
    exact ⟨_, rfl, rfl, y1, H1.out, K0.out.trans K1.out, m1⟩
  · have b1 := hasN h (r : Int)
    rw [hb.resolve_left h0] at b1
    have B1 := Lib.hid b1
    have h0' : (((r : Nat) : Int) != 0) = true := by simp [h0]
    clear h hb h0 b1
    go_enter Tryz.func124, Tryz.ntmps124
    go_wp2
    go_quiet (first | (go_at_call 86; refine Calls.quiet_of_same (B1.out _)))
    go_wp2
    have v1 := (drewN_cell w nq p).trans hp
    have v2 := (drewN_cell w nq q).trans hq
    have C := Lib.hid (csetRoot_any (H.out.drewN nq).drew r hm)
    have K0 := Lib.hid ((Ks.drewN H.out nq).drew)
    clear H B1 hq hp
    generalize w.drewN nq = V at v1 v2 C K0 ⊢
    go_still_tail 4, (by kernel_rfl)
    change wpList _ _ _ _ _ V.drew
    go_wp2_with (go_at_call 125; refine C.out.mono ?_; rintro e w1 ⟨rfl, y1, h1, k1, m1⟩; have H1 := Lib.hid h1; have K1 := Lib.hid k1; clear h1 k1)
    go_ret
    exact ⟨_, rfl, rfl, y1, H1.out, K0.out.trans K1.out, m1⟩
set_option maxHeartbeats 1000000 in
theorem give1_bad (h : IsS w sb y db s) (p q : Addr) (r : Int) (hp : w.cell? p = some (.int .i64 r)) (hq : w.cell? q = some (pt sb)) (hb : s.cur.now.hasI r = false ∨ r = (s.cur.now.root : Int)) :
    Calls Tryz.prog 129 #[.pointer (some q), .pointer (some p)] w fun e w' => ∃ t, e = .returned (.int .i64 t) ∧ t = 1 ∧ ∃ n, w' = w.drewN n := by
  have b1 := hasN h r
  by_cases h0 : s.cur.now.hasI r = false
  · rw [h0] at b1
    have B1 := Lib.hid b1
    clear h hb h0 b1
    go_enter Tryz.func129, Tryz.ntmps129
    go_wp2
    go_quiet (first | (go_at_call 86; refine Calls.quiet_of_same (B1.out _)))
    go_wp2
    go_ret
    exact ⟨_, rfl, rfl, _, rfl⟩
  · have h0' : s.cur.now.hasI r = true := by simpa using h0
    rw [h0'] at b1
    have B1 := Lib.hid b1
    have hr := hb.resolve_left h0
    have c0 := h.croot
    rw [← hr] at c0
    clear h hb h0 h0' b1 hr
    go_enter Tryz.func129, Tryz.ntmps129
    go_wp2
    go_quiet (first | (go_at_call 86; refine Calls.quiet_of_same (B1.out _)))
    go_wp2
    go_ret
    exact ⟨_, rfl, rfl, _, rfl⟩
set_option maxHeartbeats 1000000 in
theorem give1_ok (h : IsS w sb y db s) (p q : Addr) (r : Nat) (hp : w.cell? p = some (.int .i64 (r : Int))) (hq : w.cell? q = some (pt sb)) (hb : s.cur.now.hasI r = true) (h0 : r ≠ s.cur.now.root) (hr : r < 4096) (hm : y.m < 100000000) :
    Calls Tryz.prog 129 #[.pointer (some q), .pointer (some p)] w fun e w' => ∃ t, e = .returned (.int .i64 t) ∧ t = 0 ∧ ∃ y', IsS w' sb y' db (s.give r) ∧ Ks w y w' y' ∧ y'.m ≤ y.m + 2 := by
  have b1 := hasN h (r : Int)
  rw [hb] at b1
  have B1 := Lib.hid b1
  have c0 := h.croot
  have H := Lib.hid h
  have h0' : (((r : Nat) : Int) == (s.cur.now.root : Int)) = false := by simp; omega
  generalize s.cur.now.root = ro at c0 h0'
  clear h hb h0 b1
  go_enter Tryz.func129, Tryz.ntmps129
  go_wp2
  go_quiet (first | (go_at_call 86; refine Calls.quiet_of_same (B1.out _)))
  go_wp2
  have v1 := (drewN_cell w nq p).trans hp
  have v2 := (drewN_cell w nq q).trans hq
  have C := Lib.hid (cgive_any (H.out.drewN nq).drew r hr hm)
  have K0 := Lib.hid ((Ks.drewN H.out nq).drew)
  clear H B1 hq hp c0
  generalize w.drewN nq = V at v1 v2 C K0 ⊢
  go_still_tail 4, (by kernel_rfl)
  change wpList _ _ _ _ _ V.drew
  go_wp2_with (go_at_call 130; refine C.out.mono ?_; rintro e w1 ⟨rfl, y1, h1, k1, m1⟩; have H1 := Lib.hid h1; have K1 := Lib.hid k1; clear h1 k1)
  go_ret
  exact ⟨_, rfl, rfl, y1, H1.out, K0.out.trans K1.out, m1⟩
def Sto.badR (s : Sto) (r : Int) : Bool := decide (r ≠ 0) && !s.cur.now.hasI r
def Sto.badG (s : Sto) (r : Int) : Bool := !s.cur.now.hasI r || decide (r = (s.cur.now.root : Int))
def ansR (s : Sto) (d : Dsk) (r : Int) : Int := if gone s d then 9 else if s.badR r then 1 else 0
def doR (s : Sto) (d : Dsk) (r : Int) : Sto := if gone s d then s else if s.badR r then s else s.setRoot r.toNat
def ansG (s : Sto) (d : Dsk) (r : Int) : Int := if gone s d then 9 else if s.badG r then 1 else 0
def doG (s : Sto) (d : Dsk) (r : Int) : Sto := if gone s d then s else if s.badG r then s else s.give r.toNat
theorem hasI_lt {t : Sta} {r : Int} (h : t.hasI r = true) : 0 ≤ r ∧ r < 4096 ∧ t.has r.toNat = true := by
  simp [Sta.hasI] at h; exact ⟨h.1.1, h.1.2, h.2⟩
set_option maxHeartbeats 1000000 in
theorem SetRoot_any (h : IsS w sb y db s) (hd : IsD w db yd d) (r : Int) (hm : y.m < 100000000) :
    Calls Tryz.prog 96 #[pt sb, .int .i64 r] w fun e w' => e = .returned (.int .i64 (ansR s d r)) ∧ ∃ y', IsS w' sb y' db (doR s d r) ∧ Ks w y w' y' ∧ y'.m ≤ y.m + 2 := by
  obtain ⟨W, hW⟩ : ∃ W, W = (w.alloc (.cells #[pt sb] 23)).alloc (.cells #[.int .i64 r] 3) := ⟨_, rfl⟩
  have hx : Bx2 w W (pt sb) (.int .i64 r) := hW ▸ bx2 w _ _ _ _
  have hI := h.below hx.bel
  have hD := hd.below hx.bel
  have HW := Lib.hid hW
  have K0 := Lib.hid (Ks.ofBelow h hx.bel)
  have HI := Lib.hid hI
  have hmk := hmf
  have key : Calls Tryz.prog 44 #[pt sb, .func (.func 124) #[] #[.pointer (some ⟨w.heap.size + 1, 0, none⟩), .pointer (some ⟨w.heap.size, 0, none⟩)]] W fun e w' => e = .returned (.int .i64 (ansR s d r)) ∧ ∃ y', IsS w' sb y' db (doR s d r) ∧ Ks W y w' y' ∧ y'.m ≤ y.m + 2 := by
    unfold ansR doR
    by_cases hg : gone s d = true
    · rw [if_pos hg, if_pos hg]
      refine (ask_gone hI hD 124 _ (enter59 _) hg).mono ?_
      rintro e w' ⟨rfl, rfl⟩
      exact ⟨rfl, y, hI, Ks.refl _ _, by omega⟩
    · have hg' : gone s d = false := by simpa using hg
      rw [if_neg hg, if_neg hg]
      by_cases hb : s.badR r = true
      · rw [if_pos hb, if_pos hb]
        simp [Sto.badR] at hb
        refine (ask_yes hI hD 124 _ (enter59 _) hg' (setRoot1_bad hI _ _ r hx.c2 hx.c1 hb.1 hb.2)).mono ?_
        rintro e w' ⟨t, rfl, rfl, n, rfl⟩
        exact ⟨rfl, y, hI.drewN n, Ks.drewN hI n, by omega⟩
      · rw [if_neg hb, if_neg hb]
        have hb2 : r = 0 ∨ s.cur.now.hasI r = true := by
          simp [Sto.badR] at hb
          by_cases e : r = 0
          · exact .inl e
          · exact .inr (hb e)
        have hr : ∃ k : Nat, r = (k : Int) := by
          rcases hb2 with rfl | h2
          · exact ⟨0, rfl⟩
          · exact Int.eq_ofNat_of_zero_le (hasI_lt h2).1
        obtain ⟨k, rfl⟩ := hr
        rw [Int.toNat_natCast]
        refine (ask_yes hI hD 124 _ (enter59 _) hg' (setRoot1_ok hI _ _ k hx.c2 hx.c1 (hb2.imp (by omega) id) hm)).mono ?_
        rintro e w' ⟨t, rfl, rfl, y', h1, h2, h3⟩
        exact ⟨rfl, y', h1, h2, h3⟩
  have KEY := Lib.hid key
  clear hx hW hI hD h hd key
  go_enter Tryz.func96, Tryz.ntmps96
  go_wp2_with (go_at_call 44; rw [← HW.out]; refine KEY.out.mono ?_; rintro e w1 ⟨rfl, y1, h1, k1, m1⟩; have H1 := Lib.hid h1; have K1 := Lib.hid k1; clear h1 k1)
  go_ret
  exact ⟨rfl, y1, H1.out, K0.out.trans K1.out, m1⟩
set_option maxHeartbeats 1000000 in
theorem Give_any (h : IsS w sb y db s) (hd : IsD w db yd d) (r : Int) (hm : y.m < 100000000) :
    Calls Tryz.prog 98 #[pt sb, .int .i64 r] w fun e w' => e = .returned (.int .i64 (ansG s d r)) ∧ ∃ y', IsS w' sb y' db (doG s d r) ∧ Ks w y w' y' ∧ y'.m ≤ y.m + 2 := by
  obtain ⟨W, hW⟩ : ∃ W, W = (w.alloc (.cells #[pt sb] 23)).alloc (.cells #[.int .i64 r] 3) := ⟨_, rfl⟩
  have hx : Bx2 w W (pt sb) (.int .i64 r) := hW ▸ bx2 w _ _ _ _
  have hI := h.below hx.bel
  have hD := hd.below hx.bel
  have HW := Lib.hid hW
  have K0 := Lib.hid (Ks.ofBelow h hx.bel)
  have hmk := hmf
  have key : Calls Tryz.prog 44 #[pt sb, .func (.func 129) #[] #[.pointer (some ⟨w.heap.size, 0, none⟩), .pointer (some ⟨w.heap.size + 1, 0, none⟩)]] W fun e w' => e = .returned (.int .i64 (ansG s d r)) ∧ ∃ y', IsS w' sb y' db (doG s d r) ∧ Ks W y w' y' ∧ y'.m ≤ y.m + 2 := by
    unfold ansG doG
    by_cases hg : gone s d = true
    · rw [if_pos hg, if_pos hg]
      refine (ask_gone hI hD 129 _ (enter57 _) hg).mono ?_
      rintro e w' ⟨rfl, rfl⟩
      exact ⟨rfl, y, hI, Ks.refl _ _, by omega⟩
    · have hg' : gone s d = false := by simpa using hg
      rw [if_neg hg, if_neg hg]
      by_cases hb : s.badG r = true
      · rw [if_pos hb, if_pos hb]
        simp [Sto.badG] at hb
        refine (ask_yes hI hD 129 _ (enter57 _) hg' (give1_bad hI _ _ r hx.c2 hx.c1 hb)).mono ?_
        rintro e w' ⟨t, rfl, rfl, n, rfl⟩
        exact ⟨rfl, y, hI.drewN n, Ks.drewN hI n, by omega⟩
      · rw [if_neg hb, if_neg hb]
        simp [Sto.badG] at hb
        obtain ⟨k, rfl⟩ := Int.eq_ofNat_of_zero_le (hasI_lt hb.1).1
        have hk := hasI_lt hb.1
        rw [Int.toNat_natCast]
        refine (ask_yes hI hD 129 _ (enter57 _) hg' (give1_ok hI _ _ k hx.c2 hx.c1 hb.1 (by omega) (by omega) hm)).mono ?_
        rintro e w' ⟨t, rfl, rfl, y', h1, h2, h3⟩
        exact ⟨rfl, y', h1, h2, h3⟩
  have KEY := Lib.hid key
  clear hx hW hI hD h hd key
  go_enter Tryz.func98, Tryz.ntmps98
  go_wp2_with (go_at_call 44; rw [← HW.out]; refine KEY.out.mono ?_; rintro e w1 ⟨rfl, y1, h1, k1, m1⟩; have H1 := Lib.hid h1; have K1 := Lib.hid k1; clear h1 k1)
  go_ret
  exact ⟨rfl, y1, H1.out, K0.out.trans K1.out, m1⟩
end
end Go.Proofs.YtcjokkjepgfinaaGreatDoor.Sk
