import Derived.Test.YtnpebfolmdbipaaGreatDoorZ1
import Derived.Test.YtnpebfolmdbipaaGreatDoorLy
import Derived.Test.YtnpebfolmdbipaaGreatDoorStr
import Derived.Lib.SlBytesConst
namespace Go.Proofs.YtnpebfolmdbipaaGreatDoor.Sk
set_option maxRecDepth 8000
set_option linter.unusedVariables false
set_option linter.unusedSimpArgs false
open Go.RowKit Mem Go.ChangeMaps Go.Maps Go.Sort Go.Shelf
open Dk (cod elem cod_inj elem_mk elem_inv key key_inj wf_key keyed3 MapIs Fr ptr hmf cell_alloc cell_alloc_new zero42 IsD Dsk Lay drewN_cell)
/-- The pages of a map, by their numbers. -/
def pagesOf (V : Nat → Option Value) : List Nat := (List.range 4096).filter fun p => (V p).isSome
theorem mem_pagesOf (V : Nat → Option Value) (p : Nat) : p ∈ pagesOf V ↔ p < 4096 ∧ (V p).isSome = true := by simp [pagesOf]
theorem pagesOf_nodup (V : Nat → Option Value) : (pagesOf V).Nodup := List.Nodup.sublist List.filter_sublist List.nodup_range
theorem pagesOf_sorted (V : Nat → Option Value) : (pagesOf V).Pairwise (· < ·) := List.Pairwise.sublist List.filter_sublist List.pairwise_lt_range
theorem sortsA (m : Nat) : AnyZI.SortsIn Tryz.prog Tryz.sortedA_ren Fence.wide m :=
  ⟨fun blk off cap ss W hH hblk hsz => callsIn_wide.2 (AnyM.slices_Sort_int Tryz.sortA blk off cap ss W hH hblk hsz),
   fun p cap W => callsIn_wide.2 (AnyM.slices_Sort_int_none Tryz.sortA p cap W)⟩
theorem keys_call (mb : Option Nat) (w : World) : Calls Tryz.prog 99 #[.map mb] w fun e w' => e = .returned (.func (.func 117) #[] #[.pointer (some ⟨w.heap.size, 0, none⟩)]) ∧ w' = w.alloc (.cells #[.map mb] 83) :=
  (callsIn_wide (n := 6)).1 (AnyZI.keys_in Tryz.keysA Fence.wide 6 trivial rfl mb w)
theorem keys_perm {w : World} {b m : Nat} {V : Nat → Option Value} {D : DataW Unit} (hown : w.ownsMap Tryz.prog 3 elem b m D) (h1 : ∀ k : Nat, k < 4611686018427387904 → Maps.has D (key k) = (V k).isSome) (h2 : ∀ x : Int, Maps.has D (.int .i64 x) = true → 0 ≤ x ∧ x < 4096) : ((pagesOf V).map fun (p : Nat) => (p : Int)).Perm (intKeys D) := by
  obtain ⟨es, hD, hpw, _⟩ := hown.entries keyed3
  obtain ⟨es', hD', hko⟩ := hown.keysOf
  obtain rfl : es = es' := by rw [hD] at hD'; simpa using hD'
  subst hD
  refine perm_intKeys hpw (fun p hp => by obtain ⟨v, hv⟩ := hko p hp; obtain ⟨x, _, hx, _⟩ := Maps.keyOf_i64 Tryz.underlying3 hv; exact ⟨x, hx⟩) ?_ ?_
  · exact List.Pairwise.map _ (fun a b h e => h (by omega)) (pagesOf_nodup V)
  · intro x
    rw [List.mem_map]
    constructor
    · rintro ⟨p, hp, rfl⟩
      have := (mem_pagesOf V p).1 hp
      exact (h1 p (by omega)).trans this.2
    · intro hx
      obtain ⟨h0, h3⟩ := h2 x hx
      obtain ⟨p, rfl⟩ := Int.eq_ofNat_of_zero_le h0
      exact ⟨p, (mem_pagesOf V p).2 ⟨by omega, (h1 p (by omega)).symm.trans hx⟩, rfl⟩
set_option maxHeartbeats 1000000 in
theorem sorted_call {w : World} {b m : Nat} {V : Nat → Option Value} (h : MapN w b m V) (hm : m ≤ 1000000000) :
    Calls Tryz.prog 98 #[.func (.func 117) #[] #[.pointer (some ⟨w.heap.size, 0, none⟩)]] (w.alloc (.cells #[.map (some b)] 83)) fun e w' => ∃ v, e = .returned v ∧ Dk.OwnI w' (w.heap.size + 1) v ((pagesOf V).map fun (p : Nat) => (p : Int)) ∧ Below w.heap.size w w' := by
  obtain ⟨D0, zd, hz, hown, hV, hB⟩ := h
  have hbl := hown.lt
  have hsz := hown.size_le
  have hseq : SeqGives Fence.wide 2 Tryz.prog 117 #[.pointer (some ⟨w.heap.size, 0, none⟩)] encZ (fun ss => ss.Perm (intKeys D0)) (Maps.size D0) (w.alloc (.cells #[.map (some b)] 83)) :=
    AnyZI.keys_gives (ρ := Tryz.keysA_ren) { Tryz.keysA with } Fence.wide _ trivial rfl (by omega) w.heap.size b m D0 _ (by simp) (by simp) (by
      obtain ⟨es, clock, hb, Ft, hs, hD⟩ := hown
      exact ⟨es, clock, (Below.heap_alloc _ _ b hbl).trans hb, Ft, hs, hD⟩)
  have cS := AnyZI.sorted_in Tryz.sortedA Fence.wide 5 trivial trivial trivial trivial rfl (by omega) (sortsA _) (enters_of Tryz.func116 (by kernel_rfl) rfl) 117 #[.pointer (some ⟨w.heap.size, 0, none⟩)] trivial (enters_of Tryz.func117 (by kernel_rfl) rfl) _ _ (by unfold maxLen; omega) (by omega) _ hseq
  change CallsIn _ _ Tryz.prog 98 _ _ _ at cS
  refine (callsIn_wide.1 cS).mono ?_
  rintro e w' ⟨v, ss, rfl, hS, hrow, hnil, hb⟩
  have hp := keys_perm hown (fun k hk => (hV k hk).1) hB
  have hl : ss.mergeSort leI = (pagesOf V).map fun (p : Nat) => (p : Int) := by
    rw [mergeSort_of_perm_i (hS.trans hp.symm)]
    refine List.mergeSort_of_pairwise ?_
    exact List.Pairwise.map _ (fun a b h => by simp only [leI, decide_eq_true_eq]; omega) (pagesOf_sorted V)
  have hl2 : ss.mergeSort (fun x y => decide (x ≤ y)) = (pagesOf V).map fun (p : Nat) => (p : Int) := hl
  rw [hl2] at hrow
  have hlen : ss.length = ((pagesOf V).map fun (p : Nat) => (p : Int)).length := by rw [← hl, List.length_mergeSort]
  rw [hlen] at hrow
  refine ⟨v, rfl, ?_, ?_⟩
  · unfold Dk.OwnI
    exact ownsRow_base_a hrow (by simp)
  · exact ((Below.refl w.heap.size w).alloc (Nat.le_refl _) _).trans (hb.mono (by simp))
end Go.Proofs.YtnpebfolmdbipaaGreatDoor.Sk

namespace Go.Proofs.YtnpebfolmdbipaaGreatDoor.Sk
set_option maxRecDepth 8000
set_option linter.unusedVariables false
set_option linter.unusedSimpArgs false
open Go.RowKit Mem Go.ChangeMaps
open Dk (cod elem cod_inj elem_mk elem_inv key key_inj wf_key keyed3 MapIs Fr ptr hmf cell_alloc cell_alloc_new zero42 IsD Dsk Lay drewN_cell Kp ref_zero)
section
variable {B : Nat} {W w w' : World} {sb db : Nat} {y : SLay} {s : Sto} {yd : Dk.Lay} {d : Dk.Dsk} {m : Nat}
/-- Write of a page that is none of the disk's own. -/
theorem write_page (st : Dk.St B W w db yd d m) (i : Nat) (A : Option Addr) (c : Nat) (l : List UInt8) (hrd : Rd w w.heap.size A c l) (hl : l.length = 4096) (hA : ∀ a, A = some a → ¬ yd.foot a.block) (hm : m < 999999999) :
    Calls Tryz.prog 45 #[ptr db, .int .i64 (i : Int), .slice A 4096 c] w fun e w' => e = .returned (.int .i64 (d.ansW i)) ∧ ∃ y', Dk.St B W w' db y' (d.doW i l) (m + 2) ∧ Kp w yd w' y' := by
  by_cases h : d.ref i = 0
  · obtain ⟨h1, h2, h3⟩ := (ref_zero d i).1 h
    have e1 : d.ansW i = d.went := if_pos h
    have e2 : d.doW i l = (d.put i l).burn := by unfold Dk.Dsk.doW; rw [if_pos h, Int.toNat_natCast]
    have hgood := Dk.doW_good st.good i l
    have hle := st.le
    rw [e1]
    rw [e2] at hgood ⊢
    rcases hW : d.wait i with _ | l'
    · refine (Dk.write_none st.is i A c l hrd hl h1 (by omega) (by omega) hW hA).mono ?_
      rintro e w' ⟨rfl, y', i1, i2, i3⟩
      exact ⟨rfl, y', st.step i1 hgood (by omega) i2, i2⟩
    · refine (Dk.write_some st.is i A c l hrd hl h1 (by omega) (by omega) (by rw [hW]; rfl)).mono ?_
      rintro e w' ⟨rfl, y', i1, i2, i3⟩
      exact ⟨rfl, y', st.step i1 hgood (by omega) i2, i2⟩
  · have e0 : Dk.refuse d (d.has i && decide (4096 = 4096)) = d.ref i := by simp [Dk.Dsk.ref]
    have e1 : d.ansW i = d.ref i := if_neg h
    have e2 : d.doW i l = d := if_neg h
    rw [e1, e2]
    refine (Dk.write_bad st.is i A 4096 c (by rw [e0]; exact h)).mono ?_
    rintro e w' ⟨rfl, i1⟩
    have s2 := st.keep i1
    exact ⟨by rw [e0], yd, ⟨s2.is, s2.good, Nat.le_trans s2.le (by omega), s2.bel, s2.low, s2.base⟩, Kp.ofBelow yd i1⟩
set_option maxHeartbeats 1000000 in
theorem lay_any (st : Dk.St B W w db yd d m) (h : IsS w sb y db s) (hT : Tab w) (a k t : Nat) (A : Option Addr) (n c : Nat) (l : List UInt8) (hr : Rd w w.heap.size A c l) (hl : l.length = n) (hn : n ≤ 4011) (ha : a < 4096) (hk : k < 256) (ht0 : t ≠ 0) (ht : t < 18446744073709551616) (hm : m < 999999999) :
    Calls Tryz.prog 100 #[pt sb, .int .i64 (a : Int), .int .u8 (k : Int), .int .u64 (t : Int), .slice A n c] w fun e w' => e = .returned (.int .i64 (d.ansW a)) ∧ ∃ yd', Dk.St B W w' db yd' (d.doW a (Frm.frame a k t l)) (m + 2) ∧ Kp w yd w' yd' := by
  have hc := h.cdisk
  have hlt := h.row.lt
  have HP := Lib.hid (Fm.put_ok a k t A n c l w hT ha hk ht0 ht hr hl hn)
  have hfl := Frm.length_frame a k t l (by omega)
  have HF := Lib.hid hfl
  have ST := Lib.hid st
  generalize Frm.frame a k t l = fr at HP HF ⊢
  clear h hfl st hr hl hn ht0 ht ha hk hT
  go_enter Tryz.func100, Tryz.ntmps100
  go_wp2_with (first
    | (go_at_call 45; refine (write_page ((ST.out.keep HB.out)) a A1 c1 fr HR1.out HF.out HA1.out hm).mono ?_; rintro e w2 ⟨rfl, yd2, h2, k2⟩; have H2 := Lib.hid h2; have K2 := Lib.hid k2; clear h2 k2)
    | (go_at_call 44; refine HP.out.mono ?_; rintro e w1 ⟨v1, rfl, ho, hb⟩; obtain ⟨A1, c1, rfl, hr1, hlt1, hs1⟩ := ho.form; rw [HF.out]; have HB := Lib.hid hb; have HR1 := Lib.hid hr1; have c2 := (hb.cell hlt).trans hc; have HA1 := Lib.hid (show ∀ a, A1 = some a → ¬ yd.foot a.block from fun a e hf => by have h1 := (hlt1 a.block (by rw [e]; rfl)).1; have h2 := ST.out.is.foot _ hf; omega); clear ho hb hr1 hlt1 hs1))
  go_ret
  exact ⟨rfl, yd2, H2.out, (Kp.ofBelow yd HB.out).trans K2.out⟩
end
end Go.Proofs.YtnpebfolmdbipaaGreatDoor.Sk

namespace Go.Proofs.YtnpebfolmdbipaaGreatDoor.Sk
set_option maxRecDepth 8000
set_option linter.unusedVariables false
set_option linter.unusedSimpArgs false
open Go.RowKit Mem Go.ChangeMaps
open Dk (cod elem cod_inj elem_mk elem_inv key key_inj wf_key keyed3 MapIs Fr ptr hmf cell_alloc cell_alloc_new zero42 IsD Dsk Lay drewN_cell Kp ref_zero)
/-- What a law holds of its store and its disk. -/
structure Bo (B : Nat) (W w : World) (sb db : Nat) (y : SLay) (yd : Lay) (s : Sto) (d : Dsk) (m : Nat) : Prop where
  st : Dk.St B W w db yd d m
  is : IsS w sb y db s
  good : SGood s
  apart : ∀ k, y.foot k → ¬ yd.foot k
  low : ∀ k, y.foot k → B ≤ k
  nn : s.n = d.n
  sm : y.m ≤ m
  tabW : Tab W
  posB : 0 < B
def both (y : SLay) (yd : Lay) (k : Nat) : Prop := y.foot k ∨ yd.foot k
section
variable {B : Nat} {W w w' : World} {sb db : Nat} {y y' : SLay} {s s' : Sto} {yd yd' : Lay} {d d' : Dsk} {m m' : Nat}
theorem Bo.tab (h : Bo B W w sb db y yd s d m) : Tab w := h.tabW.below h.st.bel h.posB
theorem St.mono (h : Dk.St B W w db yd d m) (hm : m ≤ m') : Dk.St B W w db yd d m' := ⟨h.is, h.good, Nat.le_trans h.le hm, h.bel, h.low, h.base⟩
theorem Bo.mono (h : Bo B W w sb db y yd s d m) (hm : m ≤ m') : Bo B W w sb db y yd s d m' := ⟨St.mono h.st hm, h.is, h.good, h.apart, h.low, h.nn, Nat.le_trans h.sm hm, h.tabW, h.posB⟩
theorem Bo.base (h : Bo B W w sb db y yd s d m) : B ≤ w.heap.size := Nat.le_trans h.st.base h.st.bel.size
theorem Bo.ofSt (h : Bo B W w sb db y yd s d m) (st : Dk.St B W w' db yd' d' m') (hn : d'.n = d.n) (hm : m ≤ m') (k : Kp w yd w' yd') : Bo B W w' sb db y yd' s d' m' ∧ Kf (both y yd) w w' (both y yd') :=
  ⟨⟨st, h.is.fr k.fr h.apart, h.good, fun j hj hf => h.apart j hj (k.foot j (h.is.foot j hj) hf), h.low, h.nn.trans hn.symm, Nat.le_trans h.sm hm, h.tabW, h.posB⟩,
   ⟨k.fr.mono fun b _ e => .inr e, fun j hj e => e.elim .inl fun e => .inr (k.foot j hj e)⟩⟩
theorem Bo.ofIs (h : Bo B W w sb db y yd s d m) (is : IsS w' sb y' db s') (hg : SGood s') (hn : s'.n = s.n) (hm : m ≤ m') (hy : y'.m ≤ m') (k : Kf y.foot w w' y'.foot) : Bo B W w' sb db y' yd s' d m' ∧ Kf (both y yd) w w' (both y' yd) := by
  have hd : IsD w' db yd d := h.st.is.fr k.fr fun j hj e => h.apart j e hj
  have hl : ∀ j, y'.foot j → B ≤ j := k.low h.base h.low
  refine ⟨⟨⟨hd, h.st.good, Nat.le_trans h.st.le hm, h.st.bel.trans (k.fr.below h.base h.low), h.st.low, h.st.base⟩, is, hg, fun j hj hf => ?_, hl, hn.trans h.nn, hy, h.tabW, h.posB⟩, ⟨k.fr.mono fun b _ e => .inl e, fun j hj e => e.elim (fun e => .inl (k.foot j hj e)) .inr⟩⟩
  have := h.st.is.foot j hf
  exact h.apart j (k.foot j this hj) hf
theorem Bo.keep (h : Bo B W w sb db y yd s d m) (hb : Below w.heap.size w w') : Bo B W w' sb db y yd s d m :=
  ⟨h.st.keep hb, h.is.below hb, h.good, h.apart, h.low, h.nn, h.sm, h.tabW, h.posB⟩
end

/-! ### A commit's writes, as data -/
def freshPs (s : Sto) : List Nat := (List.range 4096).filter fun p => (s.cur.fresh p).isSome
def pageF (s : Sto) (t p : Nat) : List UInt8 := Frm.frame p 2 t ((s.cur.fresh p).getD [])
/-- The pages that are written, till the power goes. -/
def layTo (s : Sto) (t : Nat) : Dsk → List Nat → Int × Dsk
  | d, [] => (0, d)
  | d, p :: ps => if d.ansW p = 0 then layTo s t (d.doW p (pageF s t p)) ps else (d.ansW p, d.doW p (pageF s t p))
def Sto.head (s : Sto) : Nat := 1 - s.inForce
def headF (s : Sto) (t : Nat) : List UInt8 := Frm.frame s.head 1 t (headOf s.cur.now s.n)
def w3 (d : Dsk) : Int × Dsk := (d.ansF, d.doF)
def w2 (s : Sto) (t : Nat) (d : Dsk) : Int × Dsk := if d.ansW s.head = 0 then w3 (d.doW s.head (headF s t)) else (d.ansW s.head, d.doW s.head (headF s t))
def w1 (s : Sto) (t : Nat) (d : Dsk) : Int × Dsk := if d.ansF = 0 then w2 s t d.doF else (d.ansF, d.doF)
def w0 (s : Sto) (t : Nat) (d : Dsk) : Int × Dsk := if (layTo s t d (freshPs s)).1 = 0 then w1 s t (layTo s t d (freshPs s)).2 else layTo s t d (freshPs s)
def writeD (s : Sto) (d : Dsk) : Int × Dsk := if s.stamp = 18446744073709551615 then (10, d) else w0 s (s.stamp + 1) d
theorem layTo_cons (s : Sto) (t : Nat) (d : Dsk) (p : Nat) (l : List Nat) : layTo s t d (p :: l) = if d.ansW p = 0 then layTo s t (d.doW p (pageF s t p)) l else (d.ansW p, d.doW p (pageF s t p)) := rfl
theorem layTo_app (s : Sto) (t : Nat) (d : Dsk) (l k : List Nat) (h : (layTo s t d l).1 = 0) : layTo s t d (l ++ k) = layTo s t (layTo s t d l).2 k := by
  induction l generalizing d with
  | nil => rfl
  | cons p l ih =>
    rw [layTo_cons] at h
    rw [List.cons_append, layTo_cons, layTo_cons]
    by_cases e : d.ansW p = 0
    · rw [if_pos e] at h ⊢
      rw [if_pos e]
      exact ih _ h
    · rw [if_neg e] at h
      exact absurd h e
theorem layTo_bad (s : Sto) (t : Nat) (d : Dsk) (l k : List Nat) (h : (layTo s t d l).1 ≠ 0) : layTo s t d (l ++ k) = layTo s t d l := by
  induction l generalizing d with
  | nil => exact absurd rfl h
  | cons p l ih =>
    rw [layTo_cons] at h
    rw [List.cons_append, layTo_cons, layTo_cons]
    by_cases e : d.ansW p = 0
    · rw [if_pos e] at h ⊢
      rw [if_pos e]
      exact ih _ h
    · rw [if_neg e, if_neg e]
theorem doW_n (d : Dsk) (i : Int) (l : List UInt8) : (d.doW i l).n = d.n := by
  unfold Dk.Dsk.doW Dk.Dsk.burn Dk.Dsk.put
  split
  · split
    · split <;> rfl
    · split <;> rfl
    · split <;> rfl
  · rfl
theorem doF_n (d : Dsk) : d.doF.n = d.n := by
  unfold Dk.Dsk.doF Dk.Dsk.flush Dk.Dsk.flushed Dk.Dsk.burn
  repeat' split
  all_goals rfl
theorem layTo_n (s : Sto) (t : Nat) (d : Dsk) (l : List Nat) : (layTo s t d l).2.n = d.n := by
  induction l generalizing d with
  | nil => rfl
  | cons p l ih =>
    rw [layTo_cons]
    split
    · rw [ih, doW_n]
    · exact doW_n _ _ _
theorem mem_freshPs (s : Sto) (p : Nat) : p ∈ freshPs s ↔ p < 4096 ∧ (s.cur.fresh p).isSome = true := by simp [freshPs]
theorem freshPs_is {w : World} {sb db : Nat} {y : SLay} {s : Sto} (h : IsS w sb y db s) : freshPs s = pagesOf y.V := by
  unfold freshPs pagesOf
  refine List.filter_congr fun p hp => ?_
  have hp : p < 4096 := List.mem_range.1 hp
  have := h.freshOk p hp
  rcases hV : y.V p with _ | v <;> rcases hf : s.cur.fresh p with _ | l
  · rfl
  · rw [hV, hf] at this; exact this.elim
  · rw [hV, hf] at this; exact this.elim
  · rfl
end Go.Proofs.YtnpebfolmdbipaaGreatDoor.Sk

namespace Go.Proofs.YtnpebfolmdbipaaGreatDoor.Sk
set_option maxRecDepth 8000
set_option linter.unusedVariables false
set_option linter.unusedSimpArgs false
open Go.RowKit Mem Go.ChangeMaps
open Dk (cod elem cod_inj elem_mk elem_inv key key_inj wf_key keyed3 MapIs Fr ptr hmf cell_alloc cell_alloc_new zero42 IsD Dsk Lay drewN_cell Kp ref_zero)
section
variable {B : Nat} {W w w' : World} {sb db : Nat} {y y' : SLay} {s s' : Sto} {yd yd' : Lay} {d d' : Dsk} {m m' : Nat}
/-- What a commit that went well leaves of the store. -/
def Sto.wrote (s : Sto) : Sto := { s with stamp := s.stamp + 1, inForce := s.head }
def Sto.after (s : Sto) (r : Int) : Sto := if r = 0 then s.wrote else s
theorem after_bad (s : Sto) {r : Int} (h : r ≠ 0) : s.after r = s := if_neg h
theorem after_ok (s : Sto) {r : Int} (h : r = 0) : s.after r = s.wrote := if_pos h
theorem IsS.setStamp (h : IsS w sb y db s) (t : Nat) : IsS (w.setCell ⟨sb, 1032, none⟩ (.int .u64 (t : Int))) sb y db { s with stamp := t } := by
  refine h.setRow (by simp [World.setCell]) ?_ (fun k hk _ => Below.heap_setCell _ _ _ _ hk) rfl rfl rfl
  refine (h.row.set 1032 _).congr fun j hj => ?_
  unfold scell
  by_cases e : j = 1032
  · subst e; rfl
  · rw [if_neg e]; simp only [if_neg e]
theorem IsS.setForce (h : IsS w sb y db s) (t : Nat) : IsS (w.setCell ⟨sb, 1031, none⟩ (.int .i64 (t : Int))) sb y db { s with inForce := t } := by
  refine h.setRow (by simp [World.setCell]) ?_ (fun k hk _ => Below.heap_setCell _ _ _ _ hk) rfl rfl rfl
  refine (h.row.set 1031 _).congr fun j hj => ?_
  unfold scell
  by_cases e : j = 1031
  · subst e; rfl
  · rw [if_neg e]; simp only [if_neg e]
theorem write_max (h : IsS w sb y db s) (hs : s.stamp = 18446744073709551615) : Calls Tryz.prog 65 #[pt sb] w fun e w' => e = .returned (.int .i64 10) ∧ w' = w := by
  have hc := h.cstamp
  rw [hs] at hc
  have hc : w.cell? ⟨sb, 1032, none⟩ = some (.int .u64 18446744073709551615) := hc
  clear h hs
  go_enter Tryz.func65, Tryz.ntmps65
  go_wp2
  go_ret
  exact ⟨rfl, rfl⟩
theorem layTo_one (s : Sto) (t : Nat) (d : Dsk) (p : Nat) : layTo s t d [p] = if d.ansW p = 0 then (0, d.doW p (pageF s t p)) else (d.ansW p, d.doW p (pageF s t p)) := rfl
theorem layTo_step {s : Sto} {t : Nat} {d : Dsk} {l : List Nat} {k : Nat} (hk : k < l.length) (h : (layTo s t d (l.take k)).1 = 0) :
    layTo s t d (l.take (k + 1)) = layTo s t (layTo s t d (l.take k)).2 [l[k]] := by
  rw [List.take_succ_eq_append_getElem hk, layTo_app _ _ _ _ _ h]
theorem w0_bad {s : Sto} {t : Nat} {d : Dsk} {k : Nat} (hk : k < (freshPs s).length) (h : (layTo s t d ((freshPs s).take k)).1 = 0) (hb : (layTo s t d ((freshPs s).take k)).2.ansW ((freshPs s)[k] : Nat) ≠ 0) :
    w0 s t d = ((layTo s t d ((freshPs s).take k)).2.ansW ((freshPs s)[k] : Nat), (layTo s t d ((freshPs s).take k)).2.doW ((freshPs s)[k] : Nat) (pageF s t (freshPs s)[k])) := by
  have e1 := layTo_step hk h
  rw [layTo_one, if_neg hb] at e1
  have e2 : layTo s t d (freshPs s) = layTo s t d ((freshPs s).take (k + 1)) := by
    have := layTo_bad s t d ((freshPs s).take (k + 1)) ((freshPs s).drop (k + 1)) (by rw [e1]; exact hb)
    rwa [List.take_append_drop] at this
  unfold w0
  rw [e2, e1, if_neg hb]
theorem root_lt (hg : SGood s) : s.cur.now.root < 4096 := by
  have h5 := hg.n5
  rcases hg.cur.root with e | e
  · omega
  · have := (hg.cur.has _ e).2; omega
theorem wrote_good (hg : SGood s) (h : s.stamp + 1 < 18446744073709551616) : SGood s.wrote :=
  { n4 := hg.n4, n5 := hg.n5, kept := hg.kept, view := hg.view, chain := hg.chain, mark := hg.mark, mono := hg.mono, none := hg.none, same := hg.same, markSame := hg.markSame
    force := by show 1 - s.inForce < 2; omega
    stamp := h }
/-- The head is written. -/
theorem lay_head (bo : Bo B W w sb db y yd s d m) (t : Nat) (ht0 : t ≠ 0) (ht : t < 18446744073709551616) (A : Option Addr) (c n : Nat) (hr : Rd w w.heap.size A c (headOf s.cur.now s.n)) (hl : (headOf s.cur.now s.n).length = n) (hm : m < 999990000) :
    Calls Tryz.prog 100 #[pt sb, .int .i64 (s.head : Int), .int .u8 1, .int .u64 (t : Int), .slice A n c] w fun e w' => e = .returned (.int .i64 (d.ansW s.head)) ∧ ∃ yd', Bo B W w' sb db y yd' s (d.doW s.head (headF s t)) (m + 2) ∧ Kf (both y yd) w w' (both y yd') ∧ w'.cell? ⟨sb, 1030, none⟩ = some (ptr db) := by
  have hh : s.head < 4096 := by unfold Sto.head; omega
  have hn := bo.good.n5
  have hlen := headOf_len s.cur.now s.n
  refine (lay_any bo.st bo.is bo.tab s.head 1 t A n c (headOf s.cur.now s.n) hr hl (by omega) hh (by omega) ht0 ht (by omega)).mono ?_
  rintro e w' ⟨rfl, yd', h1, k1⟩
  have b := bo.ofSt h1 (doW_n _ _ _) (by omega) k1
  exact ⟨rfl, yd', b.1, b.2, b.1.is.cdisk⟩
set_option maxHeartbeats 4000000 in
theorem write_go (bo : Bo B W w sb db y yd s d m) (hs : s.stamp ≠ 18446744073709551615) (hm : m < 900000000) :
    Calls Tryz.prog 65 #[pt sb] w fun e w' => e = .returned (.int .i64 (w0 s (s.stamp + 1) d).1) ∧ ∃ yd', Bo B W w' sb db y yd' (s.after (w0 s (s.stamp + 1) d).1) (w0 s (s.stamp + 1) d).2 (m + 10000) ∧ Kf (both y yd) w w' (both y yd') := by
  have hc1 := bo.is.cstamp
  have hc2 := bo.is.cforce
  have hc3 := bo.is.cfresh
  have hst := bo.good.stamp
  have hfo := bo.good.force
  have e1 : wrap64 (1 - (s.inForce : Int)) = (s.head : Int) := by unfold wrap64 Sto.head; omega
  have E1 := Lib.hid e1
  have hne : ((s.stamp : Int) == 18446744073709551615) = false := by simp; omega
  obtain ⟨t, ht⟩ : ∃ t, t = s.stamp + 1 := ⟨_, rfl⟩
  have HTT := Lib.hid ht
  rw [← ht]
  have e2 : IntKind.u64.wrap ((s.stamp : Int) + 1) = (t : Int) := by rw [IntKind.wrap_u64]; omega
  have E2 := Lib.hid e2
  have BO := Lib.hid bo
  have HT := Lib.hid (show t < 18446744073709551616 by omega)
  have hmo : y.m ≤ 1000000000 := by have := bo.sm; omega
  clear hst hfo e1 e2 hs ht
  go_enter Tryz.func65, Tryz.ntmps65
  go_wp2
  go_quiet (fail)
  rw [E2.out, E1.out]
  have BO1 := Lib.hid ((BO.out.keep (below_drewN (Below.refl _ w) nq)))
  have K01 := Lib.hid (Kf.ofBelow (both y yd) (below_drewN (Below.refl _ w) nq))
  clear BO
  generalize w.drewN nq = wa at BO1 K01 ⊢
  have hca := BO1.out.is.cfresh
  have SC := Lib.hid (sorted_call BO1.out.is.map hmo)
  have PF := Lib.hid (freshPs_is BO1.out.is)
  rw [← PF.out] at SC
  clear hc1 hc2 hc3 hmo
  go_wp2_with (first
    | (go_at_call 98; refine SC.out.mono ?_; rintro e wb ⟨v1, rfl, ho, hb⟩; obtain ⟨A1, c1, rfl, hr1, _, _⟩ := ho.form; rw [List.length_map]; have HR1 := Lib.hid hr1; have HB1 := Lib.hid hb; have HO1 := Lib.hid ho; clear ho hb hr1)
    | (go_at_call 99; refine (keys_call _ _).mono ?_; rintro e wz ⟨rfl, rfl⟩))
  have BO2 := Lib.hid (BO1.out.keep HB1.out)
  have K02 := Lib.hid (K01.out.trans (Kf.ofBelow (both y yd) HB1.out))
  have HX := Lib.hid (show ∀ k, wa.heap.size ≤ k → ¬ both y yd k from fun k hk e => e.elim (fun e => by have := BO1.out.is.foot k e; omega) (fun e => by have := BO1.out.st.is.foot k e; omega))
  have HC := Lib.hid (show 0 < (freshPs s).length → ∃ g o, A1 = some ⟨g, o, none⟩ ∧ wa.heap.size ≤ g ∧ g < wb.heap.size ∧ ∀ i (hi : i < (freshPs s).length), wb.cell? ⟨g, o + i, none⟩ = some (.int .i64 ((freshPs s)[i] : Nat)) from fun hp => by
    obtain ⟨g, o, e, h1, h2⟩ := HR1.out.2.2.2 (by rw [List.length_map]; exact hp)
    refine ⟨g, o, e, ?_, h1, fun i hi => by have := h2 i (by rw [List.length_map]; exact hi); simpa using this⟩
    have := (World.ownsRow.lt HO1.out g (by rw [e]; rfl)).1
    omega)
  clear BO1 K01 SC HR1 HO1 hca
  clear E1 E2 hne
  have hlen : (freshPs s).length ≤ 4096 := by
    have := List.length_filter_le (fun p => (s.cur.fresh p).isSome) (List.range 4096)
    rwa [List.length_range] at this
  have hlenI : ((freshPs s).length : Int) ≤ 9223372036854775807 := by omega
  have HLN := Lib.hid hlen
  clear hlen
  go_loopw [34] (fun v wr => ∃ (k : Nat) (ydk : Lay), k ≤ (freshPs s).length ∧ v = .int .i64 (k : Nat) ∧ Hid (Bo B W wr sb db y ydk s (layTo s t d ((freshPs s).take k)).2 (m + 2 * k) ∧ Kf (both y yd) wb wr (both y ydk) ∧ (layTo s t d ((freshPs s).take k)).1 = 0)) (fun v _ => (freshPs s).length - (intOf v).toNat)
  case atStart => exact ⟨0, yd, Nat.zero_le _, rfl, Lib.hid ⟨BO2.out, Kf.refl _ _, rfl⟩⟩
  case round =>
    obtain ⟨k, ydk, hk, rfl, hR⟩ := hrel
    by_cases hlt : k < (freshPs s).length
    · obtain ⟨g, o, rfl, hg1, hg2, hcl⟩ := HC.out (by omega)
      have hlt' : (k : Int) < ((freshPs s).length : Int) := by omega
      have cc := (World.cell?_of_block (a := ⟨g, o + k, none⟩) (hR.out.2.1.free hg2 (HX.out g hg1)).2).trans (hcl k hlt)
      have hmem := (mem_freshPs s (freshPs s)[k]).1 (List.getElem_mem hlt)
      have R1 := Lib.hid (layTo_step (s := s) (t := t) (d := d) hlt hR.out.2.2)
      have RB := Lib.hid (w0_bad (s := s) (t := t) (d := d) hlt hR.out.2.2)
      have hcf := hR.out.1.is.cfresh
      obtain ⟨p, hp⟩ : ∃ p, p = (freshPs s)[k] := ⟨_, rfl⟩
      rw [← hp] at cc hmem R1 RB
      have hlk := hR.out.1.is.map.is.look Tryz.underlying83 (zero42 _) p (by omega)
      have hfr := hR.out.1.is.freshOk p hmem.1
      obtain ⟨l, hl⟩ := Option.isSome_iff_exists.1 hmem.2
      rw [hl] at hfr
      rcases hV : y.V p with _ | v
      · rw [hV] at hfr; exact hfr.elim
      · rw [hV] at hfr hlk
        simp only [Option.getD_some] at hlk
        obtain ⟨A2, c2, rfl, hr2, _, _⟩ := hfr.1.form
        have hpf : pageF s t p = Frm.frame p 2 t l := by unfold pageF; rw [hl]; rfl
        have LY := Lib.hid (lay_any hR.out.1.st hR.out.1.is hR.out.1.tab p 2 t A2 l.length c2 l hr2 rfl (hR.out.1.good.cur.len p l hl) hmem.1 (by omega) (by have := HTT.out; omega) HT.out (by have := HLN.out; omega))
        rw [← hpf] at LY
        generalize hd : (layTo s t d ((freshPs s).take k)).2 = dk at LY R1 RB hR
        have HD := Lib.hid hd
        clear hd hfr hV hl hmem hr2 hpf hcl hp
        by_cases ha : dk.ansW p = 0
        · rw [ha] at LY
          have HA := Lib.hid ha
          clear ha
          go_wp2_with (go_at_call 100; refine LY.out.mono ?_; rintro e wc ⟨rfl, yd2, h2, k2⟩; have H2 := Lib.hid h2; have K2 := Lib.hid k2; clear h2 k2)
          have B3 := hR.out.1.ofSt H2.out (doW_n _ _ _) (by omega) K2.out
          go_roundw
          case rel =>
            refine ⟨k + 1, yd2, by omega, by go_num, Lib.hid ?_⟩
            have e1 := R1.out
            rw [layTo_one, if_pos HA.out] at e1
            rw [e1]
            exact ⟨B3.1, hR.out.2.1.trans B3.2, rfl⟩
          case measure => simp [intOf]; omega
        · have HA := Lib.hid ha
          have HB9 := Lib.hid (RB.out ha)
          have hne : (dk.ansW p != 0) = true := by simp [ha]
          clear ha
          go_wp2_with (go_at_call 100; refine LY.out.mono ?_; rintro e wc ⟨rfl, yd2, h2, k2⟩; have H2 := Lib.hid h2; have K2 := Lib.hid k2; clear h2 k2)
          have B3 := hR.out.1.ofSt H2.out (doW_n _ _ _) (by omega) K2.out
          go_ret
          rw [HB9.out]
          refine ⟨rfl, yd2, ?_, K02.out.trans (hR.out.2.1.trans B3.2)⟩
          rw [after_bad s HA.out]
          exact B3.1.mono (by have := HLN.out; omega)
    · obtain rfl : k = (freshPs s).length := by omega
      rw [List.take_length] at hR
      clear hlt hk
      have hnl : ¬ (((freshPs s).length : Nat) : Int) < ((freshPs s).length : Int) := by omega
      have HL0 := Lib.hid (show w0 s t d = w1 s t (layTo s t d (freshPs s)).2 by unfold w0; rw [if_pos hR.out.2.2])
      have HLn := Lib.hid (layTo_n s t d (freshPs s))
      have BO3 := Lib.hid (hR.out.1.mono (show m + 2 * (freshPs s).length ≤ m + 8192 by have := HLN.out; omega))
      have K03 := Lib.hid (K02.out.trans hR.out.2.1)
      clear hR K02 BO2 HX HC HB1
      generalize (layTo s t d (freshPs s)).2 = dk at HL0 BO3 HLn
      have FL := Lib.hid (BO3.out.st.flush (by omega))
      have hcd := BO3.out.is.cdisk
      by_cases hf : dk.ansF = 0
      · rw [hf] at FL
        have HF0 := Lib.hid hf
        clear hf
        go_wp2_with (go_at_call 101; refine FL.out.mono ?_; rintro e wf ⟨rfl, yd3, h3, k3⟩; have B4 := BO3.out.ofSt h3 (doF_n _) (Nat.le_refl _) k3; have BO4 := Lib.hid B4.1; have K04 := Lib.hid (K03.out.trans B4.2); clear h3 k3 B4)
        have hc4 : wf.drew.cell? ⟨sb, 1030, none⟩ = some (ptr db) := BO4.out.is.cdisk
        have HC4 := Lib.hid hc4
        have BO5 := Lib.hid (BO4.out.keep ((Below.refl _ wf).drew))
        have SZ := Lib.hid (Dk.size_any (w := wf.drew) BO5.out.st.is)
        rw [← BO5.out.nn] at SZ
        have TD := Lib.hid (told_any BO5.out.is (root_lt BO5.out.good) s.n BO5.out.good.n5)
        have HLT := Lib.hid BO5.out.is.row.lt
        clear hcd hc4 FL
        go_wp2
        go_region_held3 (fun w' => w'.cell? ⟨sb, 1030, none⟩ = some (ptr db))
          (first | exact HC4.out | exact P7.out | exact P8.out)
          (first
            | (go_at_call 100; refine (lay_head BO7.out t (by have := HTT.out; omega) HT.out A7 c7 _ R7.out rfl (by omega)).mono ?_; rintro e w8 ⟨rfl, yd8, b8, k8, p8⟩; have BO8 := Lib.hid b8; have K8 := Lib.hid k8; have P8 := Lib.hid p8; clear b8 k8 p8)
            | (go_at_call 102; refine TD.out.mono ?_; rintro e w7 ⟨v7, rfl, ho, hb⟩; obtain ⟨A7, c7, rfl, hr7, _, _⟩ := ho.form; have R7 := Lib.hid hr7; have BO7 := Lib.hid (BO5.out.keep hb); have B7 := Lib.hid hb; have P7 := Lib.hid ((hb.cell HLT.out).trans HC4.out); clear ho hb hr7)
            | (go_at_call 50; refine SZ.out.mono ?_; rintro e w5 ⟨rfl, hw5⟩; obtain rfl := hw5.symm))
        have K05 := Lib.hid ((K04.out.trans (Kf.ofBelow (both y yd3) ((Below.refl wf.heap.size wf).drew.trans B7.out))).trans K8.out)
        have FL8 := Lib.hid (BO8.out.st.flush (by omega))
        have hcd8 := P8.out
        have e1 : w1 s t dk = w2 s t dk.doF := by unfold w1; rw [if_pos HF0.out]
        have E1 := Lib.hid (HL0.out.trans e1)
        clear e1 HL0 BO3 K03 TD SZ BO5 BO7 K8 R7 P7 HLn
        generalize dk.doF = de at *
        by_cases hw : de.ansW s.head = 0
        · have HW0 := Lib.hid hw
          have e2 : w2 s t de = w3 (de.doW s.head (headF s t)) := by unfold w2; rw [if_pos hw]
          have E2 := Lib.hid (E1.out.trans e2)
          clear e2
          rw [hw]
          generalize de.doW s.head (headF s t) = dg at *
          by_cases hg : dg.ansF = 0
          · have HG0 := Lib.hid hg
            rw [hg] at FL8
            have hst := fun (X : World) (h : IsS X sb y db s) => h.cstamp
            clear hw hg
            go_wp2_with (go_at_call 101; refine FL8.out.mono ?_; rintro e wg ⟨rfl, yd9, h9, k9⟩; have B9 := BO8.out.ofSt h9 (doF_n _) (Nat.le_refl _) k9; have BO9 := Lib.hid B9.1; have K9 := Lib.hid (K05.out.trans B9.2); have d1 := B9.1.is.cstamp; have d2 := B9.1.is.cforce; have f1 := B9.1.is.frozen 1032; have d3 := (B9.1.is.setStamp t).cforce; have f2 := (B9.1.is.setStamp t).frozen 1031; clear h9 k9 B9)
            go_ret
            have i1 := BO9.out.is.setStamp t
            have i2 := i1.setForce s.head
            have k2 := (BO9.out.is.set_ks 1032 (.int .u64 (t : Int))).trans (i1.set_ks 1031 (.int .i64 (s.head : Int)))
            have hw2 : ({ ({ s with stamp := t } : Sto) with inForce := s.head } : Sto) = s.wrote := by rw [HTT.out]; rfl
            have i2' : IsS _ sb y db s.wrote := hw2 ▸ i2
            have b9 := BO9.out.ofIs i2' (wrote_good BO9.out.good (by have := HTT.out; have := HT.out; omega)) rfl (Nat.le_refl _) (BO9.out.sm) k2.kf
            rw [E2.out]
            have e3 : (w3 dg).1 = 0 := HG0.out
            rw [e3, after_ok s rfl]
            exact ⟨rfl, yd9, b9.1.mono (by omega), K9.out.trans b9.2⟩
          · have HG0 := Lib.hid hg
            have hne : (dg.ansF != 0) = true := by simp [hg]
            clear hw hg
            go_wp2_with (go_at_call 101; refine FL8.out.mono ?_; rintro e wg ⟨rfl, yd9, h9, k9⟩; have B9 := BO8.out.ofSt h9 (doF_n _) (Nat.le_refl _) k9; have BO9 := Lib.hid B9.1; have K9 := Lib.hid (K05.out.trans B9.2); clear h9 k9 B9)
            go_ret
            rw [E2.out, show w3 dg = (dg.ansF, dg.doF) from rfl, after_bad s HG0.out]
            exact ⟨rfl, yd9, BO9.out.mono (by omega), K9.out⟩
        · have HW0 := Lib.hid hw
          have hne : (de.ansW s.head != 0) = true := by simp [hw]
          have e2 : w2 s t de = (de.ansW s.head, de.doW s.head (headF s t)) := by unfold w2; rw [if_neg hw]
          have E2 := Lib.hid (E1.out.trans e2)
          clear hw e2
          go_wp2
          go_ret
          rw [E2.out, after_bad s HW0.out]
          exact ⟨rfl, yd8, BO8.out.mono (by omega), K05.out⟩
      · have HF0 := Lib.hid hf
        have hne : (dk.ansF != 0) = true := by simp [hf]
        clear hf
        go_wp2_with (go_at_call 101; refine FL.out.mono ?_; rintro e wf ⟨rfl, yd3, h3, k3⟩; have B4 := BO3.out.ofSt h3 (doF_n _) (Nat.le_refl _) k3; have BO4 := Lib.hid B4.1; have K04 := Lib.hid (K03.out.trans B4.2); clear h3 k3 B4)
        go_ret
        have e1 : w1 s t dk = (dk.ansF, dk.doF) := by unfold w1; rw [if_neg HF0.out]
        rw [HL0.out, e1, after_bad s HF0.out]
        exact ⟨rfl, yd3, BO4.out.mono (by omega), K04.out⟩
end
end Go.Proofs.YtnpebfolmdbipaaGreatDoor.Sk

namespace Go.Proofs.YtnpebfolmdbipaaGreatDoor.Sk
set_option maxRecDepth 8000
set_option linter.unusedVariables false
set_option linter.unusedSimpArgs false
open Go.RowKit Mem Go.ChangeMaps
open Dk (cod elem cod_inj elem_mk elem_inv key key_inj wf_key keyed3 MapIs Fr ptr hmf cell_alloc cell_alloc_new zero42 IsD Dsk Lay drewN_cell Kp ref_zero)
/-- What Commit's closure answers, and leaves. -/
def comA (s : Sto) (d : Dsk) : Int := if s.changed then (writeD s d).1 else 0
def comD (s : Sto) (d : Dsk) : Dsk := if s.changed then (writeD s d).2 else d
def comS (s : Sto) (d : Dsk) : Sto := if s.changed then (if (writeD s d).1 = 0 then s.wrote.begin s.cur.now else s) else s.begin s.cur.now
def ansC (s : Sto) (d : Dsk) : Int := if gone s d then 9 else comA s d
def diskC (s : Sto) (d : Dsk) : Dsk := if gone s d then d else comD s d
def stoC (s : Sto) (d : Dsk) : Sto := if gone s d then { s with dead := true } else if comA s d = 9 then { comS s d with dead := true } else comS s d
section
variable {B : Nat} {W w w' : World} {sb db : Nat} {y y' : SLay} {s s' : Sto} {yd yd' : Lay} {d d' : Dsk} {m m' : Nat}
theorem enter37 (args : Array Value) (W : World) : (callFunc 64 args).run Tryz.prog W = .ok (.enter 64 args) W := by kernel_rfl
theorem write_any (bo : Bo B W w sb db y yd s d m) (hm : m < 900000000) :
    Calls Tryz.prog 65 #[pt sb] w fun e w' => e = .returned (.int .i64 (writeD s d).1) ∧ ∃ yd', Bo B W w' sb db y yd' (s.after (writeD s d).1) (writeD s d).2 (m + 10000) ∧ Kf (both y yd) w w' (both y yd') := by
  by_cases hs : s.stamp = 18446744073709551615
  · have e1 : writeD s d = (10, d) := if_pos hs
    rw [e1, after_bad s (show ((10 : Int), d).1 ≠ 0 by simp)]
    refine (write_max bo.is hs).mono ?_
    rintro e w' ⟨rfl, rfl⟩
    exact ⟨rfl, yd, bo.mono (by omega), Kf.refl _ _⟩
  · have e1 : writeD s d = w0 s (s.stamp + 1) d := if_neg hs
    rw [e1]
    exact write_go bo hs hm
set_option maxHeartbeats 1000000 in
theorem begin_tail (bo : Bo B W w sb db y yd s d m) (t : Sto) (ht : t = s.begin s.cur.now) : ∀ w', IsS w' sb y' db t → Ks w y w' y' → y'.m = y.m → Bo B W w' sb db y' yd t d m ∧ Kf (both y yd) w w' (both y' yd) := by
  intro w' h1 k1 m1
  subst ht
  exact bo.ofIs h1 (begin_good bo.good _ bo.good.cur.sta) rfl (Nat.le_refl _) (by rw [m1]; exact bo.sm) k1.kf
set_option maxHeartbeats 2000000 in
theorem commit1_any (bo : Bo B W w sb db y yd s d m) (p : Addr) (hp : w.cell? p = some (pt sb)) (hpF : ¬ both y yd p.block) (hm : m < 900000000) :
    Calls Tryz.prog 64 #[.pointer (some p)] w fun e w' => ∃ r, e = .returned (.int .i64 r) ∧ r = comA s d ∧ ∃ y' yd', Bo B W w' sb db y' yd' (comS s d) (comD s d) (m + 10000) ∧ Kf (both y yd) w w' (both y' yd') := by
  have hcc := bo.is.cchanged
  by_cases hc : s.changed = true
  · have e1 : comA s d = (writeD s d).1 := by unfold comA; rw [if_pos hc]
    have e2 : comD s d = (writeD s d).2 := by unfold comD; rw [if_pos hc]
    rw [hc] at hcc
    have WR := Lib.hid (write_any bo hm)
    have BO := Lib.hid bo
    rw [e1, e2]
    by_cases hw : (writeD s d).1 = 0
    · have e3 : comS s d = s.wrote.begin s.cur.now := by unfold comS; rw [if_pos hc, if_pos hw]
      rw [e3, hw]
      rw [hw, after_ok s rfl] at WR
      generalize (writeD s d).2 = dd at WR ⊢
      have hlt := Dk.lt_of_cell hp
      clear bo hc e1 e2 e3 hw
      go_enter Tryz.func64, Tryz.ntmps64
      go_wp2_with (go_at_call 65; refine WR.out.mono ?_; rintro e wb ⟨rfl, yd2, b2, k2⟩; have B2 := Lib.hid b2; have K2 := Lib.hid k2; have c2 := (World.cell?_of_block (a := p) (k2.free hlt hpF).2).trans hp; clear b2 k2)
      have hb := Lib.hid (begin_any B2.out.is.drew s.cur.now)
      have ld := Lib.hid (And.intro B2.out.is.drew.now.range (info73 s.cur.now))
      generalize hcs : scs s.cur.now = ar at ld hb
      have ld' := Lib.hid (show wb.drew.rangeAt sb 0 ar ∧ _ from hcs ▸ ld.out)
      clear ld
      go_still_tail 8, (by kernel_rfl)
      refine wpStill_load rfl 82 _ rfl sb 0 rfl _ _ ld'.out.1 Tryz.underlying82 rfl ld'.out.2 ?_
      refine wpStill_nil ?_
      change wpList _ _ _ _ _ wb.drew
      go_wp2_with (go_at_call 66; refine hb.out.mono ?_; rintro e w1 ⟨rfl, y1, h1, k1, m1⟩; have H1 := Lib.hid h1; have K1 := Lib.hid k1; clear h1 k1)
      go_ret
      have b4 := (B2.out.keep (Below.refl _ wb).drew)
      have b5 := begin_tail b4 _ rfl _ H1.out K1.out m1
      exact ⟨_, rfl, rfl, y1, yd2, b5.1, K2.out.trans ((Kf.ofBelow _ (Below.refl _ wb).drew).trans b5.2)⟩
    · have e3 : comS s d = s := by unfold comS; rw [if_pos hc, if_neg hw]
      rw [e3]
      rw [after_bad s hw] at WR
      have hne : ((writeD s d).1 != 0) = true := by simp [hw]
      generalize writeD s d = wd at WR hne ⊢
      clear bo hc e1 e2 e3 hw
      go_enter Tryz.func64, Tryz.ntmps64
      go_wp2_with (go_at_call 65; refine WR.out.mono ?_; rintro e wb ⟨rfl, yd2, b2, k2⟩; have B2 := Lib.hid b2; have K2 := Lib.hid k2; clear b2 k2)
      go_ret
      exact ⟨_, rfl, rfl, y, yd2, B2.out, K2.out⟩
  · have hc' : s.changed = false := by simpa using hc
    have e1 : comA s d = 0 := by unfold comA; rw [if_neg hc]
    have e2 : comD s d = d := by unfold comD; rw [if_neg hc]
    have e3 : comS s d = s.begin s.cur.now := by unfold comS; rw [if_neg hc]
    rw [e1, e2, e3]
    rw [hc'] at hcc
    have hb := Lib.hid (begin_any bo.is.drew s.cur.now)
    have BO := Lib.hid bo
    have ld := Lib.hid (And.intro bo.is.drew.now.range (info73 s.cur.now))
    generalize scs s.cur.now = ar at ld hb
    clear bo hc hc' e1 e2 e3
    go_enter Tryz.func64, Tryz.ntmps64
    go_wp2
    go_still_tail 8, (by kernel_rfl)
    refine wpStill_load rfl 82 _ rfl sb 0 rfl _ _ ld.out.1 Tryz.underlying82 rfl ld.out.2 ?_
    refine wpStill_nil ?_
    change wpList _ _ _ _ _ w.drew
    go_wp2_with (go_at_call 66; refine hb.out.mono ?_; rintro e w1 ⟨rfl, y1, h1, k1, m1⟩; have H1 := Lib.hid h1; have K1 := Lib.hid k1; clear h1 k1)
    go_ret
    have b4 := (BO.out.keep (Below.refl _ w).drew)
    have b5 := begin_tail b4 _ rfl _ H1.out K1.out m1
    exact ⟨_, rfl, rfl, y1, yd, b5.1.mono (by omega), (Kf.ofBelow _ (Below.refl _ w).drew).trans b5.2⟩

theorem IsS.setDead (h : IsS w sb y db s) (b : Bool) : IsS (w.setCell ⟨sb, 1033, none⟩ (.bool b)) sb y db { s with dead := b } := by
  refine h.setRow (by simp [World.setCell]) ?_ (fun k hk _ => Below.heap_setCell _ _ _ _ hk) rfl rfl rfl
  refine (h.row.set 1033 _).congr fun j hj => ?_
  unfold scell
  by_cases e : j = 1033
  · subst e; rfl
  · rw [if_neg e]
    have : ¬ (1033 : Nat) ≤ j := by omega
    rcases (by omega : j < 513 ∨ (513 ≤ j ∧ j < 1026) ∨ j = 1026 ∨ j = 1027 ∨ j = 1028 ∨ j = 1029 ∨ j = 1030 ∨ j = 1031 ∨ j = 1032) with h1 | h1 | h1
    · rw [if_pos h1, if_pos h1]
    · simp only [if_neg (show ¬ j < 513 by omega), if_pos h1.2]
    · rcases h1 with rfl | rfl | rfl | rfl | rfl | rfl | rfl <;> rfl
theorem dead_good (hg : SGood s) (b : Bool) : SGood { s with dead := b } :=
  { n4 := hg.n4, n5 := hg.n5, kept := hg.kept, view := hg.view, chain := hg.chain, mark := hg.mark, mono := hg.mono, none := hg.none, same := hg.same, markSame := hg.markSame, force := hg.force, stamp := hg.stamp }
/-- The store is dead from then on. -/
theorem Bo.kill (bo : Bo B W w sb db y yd s d m) : Bo B W (w.setCell ⟨sb, 1033, none⟩ (.bool true)) sb db y yd { s with dead := true } d m ∧ Kf (both y yd) w (w.setCell ⟨sb, 1033, none⟩ (.bool true)) (both y yd) :=
  bo.ofIs (bo.is.setDead true) (dead_good bo.good true) rfl (Nat.le_refl _) bo.sm (bo.is.set_ks 1033 _).kf
set_option maxHeartbeats 2000000 in
theorem Commit_any (bo : Bo B W w sb db y yd s d m) (hm : m < 900000000) :
    Calls Tryz.prog 23 #[pt sb] w fun e w' => e = .returned (.int .i64 (ansC s d)) ∧ ∃ y' yd', Bo B W w' sb db y' yd' (stoC s d) (diskC s d) (m + 10000) ∧ Kf (both y yd) w w' (both y' yd') := by
  obtain ⟨V, hV⟩ : ∃ V, V = w.alloc (.cells #[pt sb] 25) := ⟨_, rfl⟩
  have hb1 : Below w.heap.size w V := hV ▸ (Below.refl w.heap.size w).alloc (Nat.le_refl _) _
  have b1 := bo.keep hb1
  have c1 : V.cell? ⟨w.heap.size, 0, none⟩ = some (pt sb) := hV ▸ cell_alloc_new w _ _
  have hnf : ¬ both y yd w.heap.size := fun e => e.elim (fun e => by have := bo.is.foot _ e; omega) (fun e => by have := bo.st.is.foot _ e; omega)
  have HV := Lib.hid hV
  have K0 := Lib.hid (Kf.ofBelow (both y yd) hb1)
  have B1 := Lib.hid b1
  have hmk := hmf
  have hlt := Dk.lt_of_cell c1
  by_cases hg : gone s d = true
  · have e1 : ansC s d = 9 := if_pos hg
    have e2 : diskC s d = d := if_pos hg
    have e3 : stoC s d = { s with dead := true } := if_pos hg
    rw [e1, e2, e3]
    have HA := Lib.hid (ask_gone b1.is b1.st.is 64 #[.pointer (some ⟨w.heap.size, 0, none⟩)] (enter37 _) hg)
    have cd := b1.is.cdead
    have fd := b1.is.frozen 1033
    clear bo hb1 b1 hV hnf hg e1 e2 e3 hlt
    go_enter Tryz.func23, Tryz.ntmps23
    go_wp2_with (go_at_call 47; rw [← HV.out]; refine HA.out.mono ?_; rintro e w1 ⟨rfl, hw1⟩; obtain rfl := hw1.symm)
    go_ret
    exact ⟨rfl, y, yd, B1.out.kill.1.mono (by omega), K0.out.trans B1.out.kill.2⟩
  · have hg' : gone s d = false := by simpa using hg
    have e1 : ansC s d = comA s d := if_neg hg
    have e2 : diskC s d = comD s d := if_neg hg
    have e3 : stoC s d = if comA s d = 9 then { comS s d with dead := true } else comS s d := if_neg hg
    rw [e1, e2, e3]
    have HA := Lib.hid (ask_yes b1.is b1.st.is 64 #[.pointer (some ⟨w.heap.size, 0, none⟩)] (enter37 _) hg' (commit1_any b1 _ c1 hnf hm))
    clear bo hb1 b1 hV hg hg' e1 e2 e3
    generalize comD s d = dd at HA ⊢
    by_cases h9 : comA s d = 9
    · rw [if_pos h9, h9]
      rw [h9] at HA
      generalize comS s d = ss at HA ⊢
      clear h9
      go_enter Tryz.func23, Tryz.ntmps23
      go_wp2_with (go_at_call 47; rw [← HV.out]; refine HA.out.mono ?_; rintro e w1 ⟨r, rfl, rfl, y1, yd1, b2, k2⟩; have B2 := Lib.hid b2; have K2 := Lib.hid k2; have c2 := (World.cell?_of_block (a := ⟨w.heap.size, 0, none⟩) (k2.free hlt hnf).2).trans c1; have cd := b2.is.cdead; have fd := b2.is.frozen 1033; clear b2 k2)
      go_ret
      exact ⟨rfl, y1, yd1, B2.out.kill.1, K0.out.trans (K2.out.trans B2.out.kill.2)⟩
    · rw [if_neg h9]
      have hne : (comA s d == 9) = false := by simp [h9]
      generalize comS s d = ss at HA ⊢
      generalize comA s d = aa at HA hne ⊢
      clear h9
      go_enter Tryz.func23, Tryz.ntmps23
      go_wp2_with (go_at_call 47; rw [← HV.out]; refine HA.out.mono ?_; rintro e w1 ⟨r, rfl, rfl, y1, yd1, b2, k2⟩; have B2 := Lib.hid b2; have K2 := Lib.hid k2; clear b2 k2)
      go_ret
      exact ⟨rfl, y1, yd1, B2.out, K0.out.trans K2.out⟩
end
end Go.Proofs.YtnpebfolmdbipaaGreatDoor.Sk

namespace Go.Proofs.YtnpebfolmdbipaaGreatDoor.Sk
set_option maxRecDepth 8000
set_option linter.unusedVariables false
set_option linter.unusedSimpArgs false
open Go.RowKit Mem Go.ChangeMaps
open Dk (cod elem cod_inj elem_mk elem_inv key key_inj wf_key keyed3 MapIs Fr ptr hmf cell_alloc cell_alloc_new zero42 IsD Dsk Lay drewN_cell Kp ref_zero)
open Fm (gets get_yes get_no tab_low)
/-- What look has found. -/
structure Lk where
  kept : Sta
  force : Nat
  stamp : Nat
  best : Nat
def lk0 : Lk := ⟨sta0, 0, 0, 0⟩
def takes (d : Dsk) (n a : Nat) (x : Lk) : Prop := Frm.whole (d.page a) a 1 ∧ x.best < Frm.newest (d.page a) ∧ mayHead (Frm.held (d.page a)) n
open Classical in
noncomputable def lkStep (d : Dsk) (n a : Nat) (x : Lk) : Lk := if takes d n a x then ⟨staIn (Frm.held (d.page a)), a, max x.stamp (Frm.newest (d.page a)), Frm.newest (d.page a)⟩ else { x with stamp := max x.stamp (Frm.newest (d.page a)) }
noncomputable def lkTo (d : Dsk) (n : Nat) : Nat → Lk
  | 0 => lk0
  | k + 1 => lkStep d n k (lkTo d n k)
theorem lk_yes {d : Dsk} {n a : Nat} {x : Lk} (h : takes d n a x) : lkStep d n a x = ⟨staIn (Frm.held (d.page a)), a, max x.stamp (Frm.newest (d.page a)), Frm.newest (d.page a)⟩ := if_pos h
theorem lk_no {d : Dsk} {n a : Nat} {x : Lk} (h : ¬ takes d n a x) : lkStep d n a x = { x with stamp := max x.stamp (Frm.newest (d.page a)) } := if_neg h
theorem lk_stamp (d : Dsk) (n a : Nat) (x : Lk) : (lkStep d n a x).stamp = max x.stamp (Frm.newest (d.page a)) := by
  unfold lkStep; split <;> rfl
theorem lk_lt (d : Dsk) (n k : Nat) : (lkTo d n k).stamp < 18446744073709551616 ∧ (lkTo d n k).best < 18446744073709551616 := by
  induction k with
  | zero => exact ⟨by show (0 : Nat) < _; omega, by show (0 : Nat) < _; omega⟩
  | succ k ih =>
    have := Fm.newest_lt (d.page k)
    unfold lkTo lkStep
    split
    · exact ⟨by show max _ _ < _; omega, this⟩
    · exact ⟨by show max _ _ < _; omega, ih.2⟩
/-- The cells of a store that is being opened. -/
def ocell (x : Lk) (db : Nat) (i : Nat) : Value :=
  if i < 513 then stc sta0 i else if i < 1026 then stc x.kept (i - 513) else
  if i = 1026 then .map none else if i = 1027 then .bool false else if i = 1028 then .slice none 0 0 else if i = 1029 then .slice none 0 0 else
  if i = 1030 then ptr db else if i = 1031 then .int .i64 (x.force : Int) else if i = 1032 then .int .u64 (x.stamp : Int) else .bool false
section
variable {w w' : World} {sb db : Nat} {y y' : SLay} {yd : Lay} {d : Dsk}
theorem o_stamp {x : Lk} (h : w.rowIs sb 89 1034 (ocell x db)) (t : Nat) : (w.setCell ⟨sb, 1032, none⟩ (.int .u64 (t : Int))).rowIs sb 89 1034 (ocell { x with stamp := t } db) := (h.set 1032 _).congr fun j hj => by
  unfold ocell
  by_cases e : j = 1032
  · subst e; rfl
  · rw [if_neg e]; simp only [if_neg e]
theorem o_force {x : Lk} (h : w.rowIs sb 89 1034 (ocell x db)) (t : Nat) : (w.setCell ⟨sb, 1031, none⟩ (.int .i64 (t : Int))).rowIs sb 89 1034 (ocell { x with force := t } db) := (h.set 1031 _).congr fun j hj => by
  unfold ocell
  by_cases e : j = 1031
  · subst e; rfl
  · rw [if_neg e]; simp only [if_neg e]
theorem o_kept {x : Lk} (h : w.rowIs sb 89 1034 (ocell x db)) (t : Sta) : (w.setCells sb 513 (scs t)).rowIs sb 89 1034 (ocell { x with kept := t } db) := (rowIs_setCells (scs t) 513 _ h).congr fun j hj => by
  unfold ocell
  by_cases h1 : j < 513
  · rw [if_neg (by omega), if_pos h1, if_pos h1]
  · rw [if_pos (by omega)]
    by_cases h2 : j < 1026
    · rw [scs_at t _ (by omega)]
      simp only [if_neg h1, if_pos h2, Option.getD_some]
    · rw [List.getElem?_eq_none (by rw [scs_len]; omega)]
      simp only [if_neg h1, if_neg h2, Option.getD_none]
theorem o_there {x : Lk} (h : w.rowIs sb 89 1034 (ocell x db)) (t : Sta) : w.there sb 513 (scs t).toArray.size := rowIs_there h 513 _ (by simp [scs_len])
theorem Rd.poke {B c : Nat} {A : Option Addr} {l : List UInt8} (h : Rd w B A c l) {q : Addr} (hA : ∀ a, A = some a → a.block ≠ q.block) (v : Value) : Rd (w.setCell q v) B A c l :=
  ⟨h.1, h.2.1, h.2.2.1, fun hn => by
    obtain ⟨b, o, e, hb, hc⟩ := h.2.2.2 hn
    refine ⟨b, o, e, hb, fun i hi => (World.cell?_setCell_other _ _ _ _ (fun e2 => hA _ e (by rw [e2]))).trans (hc i hi)⟩⟩
/-- Behind the stamp was stored. -/
structure LkM (w wr wm : World) (sb db : Nat) (x : Lk) (A : Option Addr) (c : Nat) (l : List UInt8) (yd : Lay) (d : Dsk) : Prop where
  row : wm.rowIs sb 89 1034 (ocell { x with stamp := max x.stamp (Frm.newest l) } db)
  fr : Fr (fun j => j = sb) w wm
  rd : Rd wm wm.heap.size A c l
  tab : Tab wm
  isd : IsD wm db yd d
theorem lkm {wr wa wn : World} {x : Lk} {A : Option Addr} {c : Nat} {l : List UInt8} (hr : wr.rowIs sb 89 1034 (ocell x db)) (hf : Fr (fun j => j = sb) w wr) (hT : Tab wr) (hd : IsD wr db yd d) (hsb : ¬ yd.foot sb) (h0 : 0 < sb)
    (b1 : Below wr.heap.size wr wa) (r1 : Rd wa wa.heap.size A c l) (hA : ∀ a, A = some a → wr.heap.size ≤ a.block) (b2 : Below wa.drew.heap.size wa.drew wn) : LkM w wr (wn.setCell ⟨sb, 1032, none⟩ (.int .u64 ((max x.stamp (Frm.newest l) : Nat) : Int))) sb db x A c l yd d := by
  have b3 : Below wr.heap.size wr wn := (b1.drew).trans (b2.mono b1.size)
  have hlt := hr.lt
  have hs := b2.size
  have hs' : wa.heap.size ≤ wn.heap.size := hs
  have hsz : (wn.setCell ⟨sb, 1032, none⟩ (.int .u64 ((max x.stamp (Frm.newest l) : Nat) : Int))).heap.size = wn.heap.size := by simp [World.setCell]
  refine ⟨o_stamp (hr.of_block (b3.block sb hlt)) _, (hf.trans (Fr.ofBelow (F := fun j => j = sb) b3) fun j _ e => e).trans (Fr.setCell (F := fun j => j = sb) wn _ (fun _ => rfl) _) fun j _ e => e, ?_, ?_, ?_⟩
  · rw [hsz]
    exact Rd.poke (Rd.more ((r1.keep (w' := wa.drew) fun _ _ => rfl).below b2) hs') (fun a e e2 => by have := hA a e; simp at e2; omega) _
  · exact (tab_low hT b3).below (B := 1) (Below.setCell (Below.refl 1 wn) (by simp; omega) _) (by omega)
  · exact (hd.below b3).fr (Fr.setCell (F := fun j => j = sb) wn _ (fun _ => rfl) _) fun j hj e => hsb (e ▸ hj)
/-- Behind a head was heard, and what it says laid into a box. -/
structure LkH (w wj wz : World) (sb db : Nat) (x : Lk) (th : Sta) : Prop where
  th0 : (wj.alloc (.cells (scs sta0).toArray 82)).there wj.heap.size 0 (scs th).toArray.size
  rg : wz.rangeAt wj.heap.size 0 (scs th)
  row : wz.rowIs sb 89 1034 (ocell x db)
  th1 : wz.there sb 513 (scs th).toArray.size
  fr : Fr (fun j => j = sb) w wz
theorem lkh {wm wj : World} {x : Lk} (th : Sta) (hr : wm.rowIs sb 89 1034 (ocell x db)) (hf : Fr (fun j => j = sb) w wm) (hb : Below wm.heap.size wm wj) : LkH w wj ((wj.alloc (.cells (scs sta0).toArray 82)).setCells wj.heap.size 0 (scs th)) sb db x th := by
  have hlt := hr.lt
  have hs := hb.size
  have hb2 : Below wm.heap.size wm ((wj.alloc (.cells (scs sta0).toArray 82)).setCells wj.heap.size 0 (scs th)) :=
    (hb.alloc hs _).trans ((setCells_fr wj.heap.size (scs th) 0 _).below (by simp; omega) fun j e => by omega)
  have hr2 := hr.of_block (hb2.block sb hlt)
  exact ⟨StRow.there ⟨_, row_new wj sta0⟩ th, StaAt.range (rowIs_sta (StRow.set ⟨_, row_new wj sta0⟩ th)), hr2, o_there hr2 th, hf.trans (Fr.ofBelow (F := fun j => j = sb) hb2) fun j _ e => e⟩
theorem wpList_store_sta {ops : Array Oper} {rest : List Oper} {op : Oper} {a : Act} {w : World} {Q : Exit → Act → World → Prop} (hgd : op.guard = none) (x z : Operand) (ho : op.op = .store 82 x z)
    (b o : Nat) (t : Sta) (hx : a.eval x = .pointer (some ⟨b, o, none⟩)) (hy : a.eval z = .agg (scs t).toArray)
    (ht : w.there b o (scs t).toArray.size) (R : World → Prop) (hR : R (w.setCells b o (scs t))) (h : ∀ wz, R wz → wpList Tryz.prog ops Q rest (a.put op.dst undef) wz) : wpList Tryz.prog ops Q (op :: rest) a w := by
  refine wpList_store_mid hgd 82 x z ho b o (scs t).toArray hx hy ht (info73a t) (one_scs' t) ?_
  rw [List.toList_toArray]
  exact h _ hR
set_option maxHeartbeats 4000000 in
theorem look_any (hr : w.rowIs sb 89 1034 (ocell lk0 db)) (hd : IsD w db yd d) (hT : Tab w) (hsb : ¬ yd.foot sb) (h0 : 0 < sb) (hg : d.dead = false) (h4 : 4 ≤ d.n) (h5 : d.n ≤ 4096) :
    Calls Tryz.prog 67 #[pt sb] w fun e w' => e = .returned (.int .i64 0) ∧ w'.rowIs sb 89 1034 (ocell (lkTo d d.n 2) db) ∧ Fr (fun k => k = sb) w w' := by
  have HD := Lib.hid hd
  have HR := Lib.hid hr
  have HT := Lib.hid hT
  have HG := Lib.hid hg
  have HP := Lib.hid (fun p hp => page_len hd p hp)
  have hlt := hr.lt
  have HLT := Lib.hid hlt
  clear hr hd hT hg hlt
  go_enter Tryz.func67, Tryz.ntmps67
  go_wp2
  go_loopw [3, 12] (fun b v wr => ∃ k : Nat, k ≤ 2 ∧ v = .int .i64 k ∧ b = .int .u64 ((lkTo d d.n k).best : Nat) ∧ Hid (wr.rowIs sb 89 1034 (ocell (lkTo d d.n k) db) ∧ Fr (fun j => j = sb) w wr)) (fun _ v _ => 2 - (intOf v).toNat)
  case atStart => exact ⟨0, by omega, rfl, rfl, Lib.hid ⟨HR.out, Fr.refl _ _⟩⟩
  case round =>
    obtain ⟨k, hk, rfl, rfl, hR⟩ := hrel
    by_cases hlt : k < 2
    · have hlt' : (k : Int) < 2 := by omega
      have hdr : IsD wr db yd d := HD.out.fr hR.out.2 (fun j hj e => hsb (e ▸ hj))
      have c30 : wr.cell? ⟨sb, 1030, none⟩ = some (ptr db) := hR.out.1.cell (by omega)
      have c32 : wr.cell? ⟨sb, 1032, none⟩ = some (.int .u64 ((lkTo d d.n k).stamp : Int)) := hR.out.1.cell (by omega)
      have RD := Lib.hid (Dk.read_ok hdr k HG.out (by omega))
      have hTr : Tab wr := HT.out.below (hR.out.2.below (B := 1) (by have := HLT.out; omega) fun j e => by omega) (by omega)
      have HTr := Lib.hid hTr
      have HPL := Lib.hid (HP.out k (by omega))
      have PLT := Lib.hid (lk_lt d d.n k)
      have HDR := Lib.hid hdr
      have HST : lkTo d d.n (k + 1) = lkStep d d.n k (lkTo d d.n k) := rfl
      have HST := Lib.hid HST
      generalize lkTo d d.n k = x at c32 hR PLT HST
      clear hdr hTr hlt
      go_wp2_with (go_at_call 37; refine RD.out.mono ?_; rintro e wa ⟨v1, rfl, ho1, hb1⟩; obtain ⟨A1, c1, rfl, hr1, hlt1, hs1⟩ := ho1.form; rw [HPL.out]; have R1 := Lib.hid hr1; have B1 := Lib.hid hb1; have HA1 := Lib.hid (show ∀ a, A1 = some a → wr.heap.size ≤ a.block from fun a e => (hlt1 a.block (by rw [e]; rfl)).1); clear ho1 hr1 hlt1 hs1 hb1)
      have RA := Lib.hid (hR.out.1.of_block (B1.out.block sb hR.out.1.lt))
      have FA := Lib.hid (hR.out.2.trans (Fr.ofBelow (F := fun j => j = sb) B1.out) fun j _ e => e)
      have HTA := Lib.hid (tab_low HTr.out B1.out)
      have ca : wa.cell? ⟨sb, 1032, none⟩ = some (.int .u64 (x.stamp : Int)) := RA.out.cell (by omega)
      have fa : wa.frozen? ⟨sb, 1032, none⟩ = false := RA.out.frozen 1032
      have NW := Lib.hid (Fm.Newest_any A1 4096 c1 (d.page k) wa.drew R1.out HPL.out)
      have LTA := Lib.hid RA.out.lt
      have CA := Lib.hid ca
      have FRA := Lib.hid fa
      clear c30 c32
      go_region_with (first
        | (go_at_call 74; refine NW.out.mono ?_; rintro e wn ⟨rfl, hn⟩; have BN := Lib.hid hn; have cn := (hn.cell LTA.out).trans CA.out; have fn := (frozen_of_block (hn.block sb LTA.out) 1032).trans FRA.out; clear hn))
      all_goals (
        have hmx : max (x.stamp : Int) (Frm.newest (d.page k) : Int) = ((max x.stamp (Frm.newest (d.page k)) : Nat) : Int) := by omega
        rw [hmx]
        have LM := Lib.hid (lkm hR.out.1 hR.out.2 HTr.out HDR.out hsb h0 B1.out R1.out HA1.out BN.out)
        have SZ := Lib.hid (Dk.size_any LM.out.isd)
        have c40 : (wn.setCell ⟨sb, 1032, none⟩ (.int .u64 ((max x.stamp (Frm.newest (d.page k)) : Nat) : Int))).cell? ⟨sb, 1030, none⟩ = some (ptr db) := LM.out.row.cell (by omega)
        generalize wn.setCell ⟨sb, 1032, none⟩ (.int .u64 ((max x.stamp (Frm.newest (d.page k)) : Nat) : Int)) = wm at LM SZ c40 ⊢
        have C40 := Lib.hid c40
        clear cn fn ca fa hmx c40
        by_cases hwh : Frm.whole (d.page k) k 1
        · have HG0 := Lib.hid (show gets (d.page k) (k : Int) 1 from ⟨by omega, by rw [Int.toNat_natCast]; exact hwh⟩)
          have hnl := Fm.newest_lt (d.page k)
          by_cases hbn : x.best < Frm.newest (d.page k)
          · have hle : ¬ (Frm.newest (d.page k) : Int) ≤ (x.best : Int) := by omega
            have GY := Lib.hid (get_yes LM.out.tab LM.out.rd HPL.out (by omega) HG0.out _ rfl _ rfl)
            have HHL := Lib.hid (Frm.held_le (d.page k))
            have ROW := Lib.hid LM.out.row
            have HTK := Lib.hid (show mayHead (Frm.held (d.page k)) d.n → lkTo d d.n (k + 1) = ⟨staIn (Frm.held (d.page k)), k, max x.stamp (Frm.newest (d.page k)), Frm.newest (d.page k)⟩ from fun hm => HST.out.trans (lk_yes ⟨hwh, hbn, hm⟩))
            have HTN := Lib.hid (show ¬ mayHead (Frm.held (d.page k)) d.n → lkTo d d.n (k + 1) = { x with stamp := max x.stamp (Frm.newest (d.page k)) } from fun hm => HST.out.trans (lk_no fun e => hm e.2.2))
            generalize Frm.newest (d.page k) = nn at hle ROW GY hnl HTK HTN
            generalize Frm.held (d.page k) = hb at GY HHL HTK HTN
            clear hwh hbn hnl HST
            have hzc := zc73
            go_wp2_with (first
              | (with_reducible change wpList _ _ _ (Oper.mk none (Op.store 82 (Operand.tmp 69) (Operand.tmp 64)) _ _ _ _ :: _) _ _; refine wpList_store_sta rfl (.tmp 69) (.tmp 64) rfl sb 513 th rfl rfl Z2.out.th1 (fun wy => wy.rowIs sb 89 1034 (ocell { x with stamp := max x.stamp nn, kept := th } db) ∧ Fr (fun j => j = sb) w wy) ⟨o_kept Z2.out.row th, Z2.out.fr.trans (setCells_fr sb (scs th) 513 wz) fun j _ e => e⟩ ?_; intro wy hy; have Z3 := Lib.hid hy; have c31 : wy.cell? ⟨sb, 1031, none⟩ = some (.int .i64 (x.force : Int)) := hy.1.cell (by omega); have f31 := hy.1.frozen 1031; clear hy)
              | (with_reducible change wpList _ _ _ (Oper.mk _ (Op.load 82 (Operand.tmp 10)) _ _ _ _ :: _) _ _; refine wpList_load_mid rfl 82 (.tmp 10) rfl wj.heap.size 0 rfl _ _ Z2.out.rg Tryz.underlying82 rfl (info73 th) ?_)
              | (with_reducible change wpList _ _ _ (Oper.mk none (Op.store 82 (Operand.tmp 10) (Operand.tmp 59)) _ _ _ _ :: _) _ _; refine wpList_store_sta rfl (.tmp 10) (.tmp 59) rfl wj.heap.size 0 th rfl rfl TH.out.th0 (fun wz => LkH w wj wz sb db { x with stamp := max x.stamp nn } th) TH.out ?_; intro wz hz; have Z2 := Lib.hid hz; clear hz)
              | (go_at_call 103; refine (heard_any A2 c2 hb.length hb R2.out rfl HHL.out d.n h5 (by omega)).mono ?_; rintro e wj ⟨th, okh, rfl, hh1, hh2, hb3⟩; have H1 := Lib.hid hh1; have H2 := Lib.hid hh2; have B3 := Lib.hid hb3; have TH := Lib.hid (lkh th (ROW.out.of_block (B2.out.block sb ROW.out.lt)) (LM.out.fr.trans (Fr.ofBelow (F := fun j => j = sb) B2.out) fun j _ e => e) hb3); clear hh1 hh2 hb3)
              | (go_at_call 50; refine (Dk.size_any (LM.out.isd.below B2.out)).mono ?_; rintro e w5 ⟨rfl, hw5⟩; obtain rfl := hw5.symm)
              | (go_at_call 38; refine GY.out.mono ?_; rintro e wg ⟨v2, rfl, ho2, hb2⟩; obtain ⟨A2, c2, rfl, hr2, _, _⟩ := ho2.form; have R2 := Lib.hid hr2; have B2 := Lib.hid hb2; have c41 := (hb2.cell LM.out.row.lt).trans C40.out; clear ho2 hb2 hr2))
            · have hok : okh = true := by assumption
              obtain ⟨hm, rfl⟩ := H1.out hok
              have hst := Lib.hid (HTK.out hm)
              go_roundw
              case rel => exact ⟨k + 1, by omega, by go_num, by rw [hst.out], Lib.hid ⟨by rw [hst.out]; exact o_force Z3.out.1 k, Z3.out.2.trans (Fr.setCell (F := fun j => j = sb) wy _ (fun _ => rfl) _) fun j _ e => e⟩⟩
              case measure => simp [intOf]; omega
            · have hok : okh = false := by assumption
              have hst := Lib.hid (HTN.out (H2.out hok))
              go_roundw
              case rel => exact ⟨k + 1, by omega, by go_num, by rw [hst.out], Lib.hid ⟨by rw [hst.out]; exact Z2.out.row, Z2.out.fr⟩⟩
              case measure => simp [intOf]; omega
          · have hst := Lib.hid (HST.out.trans (lk_no fun e => hbn e.2.1))
            have hle : (Frm.newest (d.page k) : Int) ≤ (x.best : Int) := by omega
            have GY := Lib.hid (get_yes LM.out.tab LM.out.rd HPL.out (by omega) HG0.out _ rfl _ rfl)
            have ROW := Lib.hid LM.out.row
            generalize hnn : Frm.newest (d.page k) = nn at hle hst ROW GY hnl
            clear hnn hwh hbn hnl
            go_wp2_with (go_at_call 38; refine GY.out.mono ?_; rintro e wg ⟨v2, rfl, ho2, hb2⟩; have B2 := Lib.hid hb2; clear ho2 hb2)
            go_roundw
            case rel => exact ⟨k + 1, by omega, by go_num, by rw [hst.out], Lib.hid ⟨by rw [hst.out]; exact ROW.out.of_block (B2.out.block sb ROW.out.lt), LM.out.fr.trans (Fr.ofBelow (F := fun j => j = sb) B2.out) fun j _ e => e⟩⟩
            case measure => simp [intOf]; omega
        · have hst := Lib.hid (HST.out.trans (lk_no fun e => hwh e.1))
          have HG0 := Lib.hid (show ¬ gets (d.page k) (k : Int) 1 from fun e => hwh (by have := e.2; rwa [Int.toNat_natCast] at this))
          have GN := Lib.hid (get_no LM.out.tab LM.out.rd HPL.out (by omega) HG0.out)
          clear hwh
          go_wp2_with (go_at_call 38; refine GN.out.mono ?_; rintro e wg ⟨rfl, hb2⟩; have B2 := Lib.hid hb2; clear hb2)
          go_roundw
          case rel => exact ⟨k + 1, by omega, by go_num, by rw [hst.out], Lib.hid ⟨by rw [hst.out]; exact LM.out.row.of_block (B2.out.block sb LM.out.row.lt), LM.out.fr.trans (Fr.ofBelow (F := fun j => j = sb) B2.out) fun j _ e => e⟩⟩
          case measure => simp [intOf]; omega)
    · obtain rfl : k = 2 := by omega
      go_wp2
      go_ret
      exact ⟨rfl, hR.out.1, hR.out.2⟩
end
end Go.Proofs.YtnpebfolmdbipaaGreatDoor.Sk

namespace Go.Proofs.YtnpebfolmdbipaaGreatDoor.Sk
set_option maxRecDepth 8000
set_option linter.unusedVariables false
set_option linter.unusedSimpArgs false
open Go.RowKit Mem Go.ChangeMaps
open Dk (cod elem cod_inj elem_mk elem_inv key key_inj wf_key keyed3 MapIs Fr ptr hmf cell_alloc cell_alloc_new zero42 IsD Dsk Lay drewN_cell Kp ref_zero)
def tl0 (db : Nat) : List Value := [ptr db, .int .i64 0, .int .u64 0, .bool false]
theorem zinfo79 : (Tryz.prog.info? 89).map (fun i => (i.zero, i.size)) = some (some (.agg (z77 ++ [Value.pointer none, Value.int .i64 0, Value.int .u64 0, Value.bool false]).toArray), 1034) := by kernel_rfl
theorem size77 (W : World) : (Go.sizeOf 87).run Tryz.prog W = .ok 1030 W := sizeOf_of (by kernel_rfl) W
theorem size26 (W : World) : (Go.sizeOf 24).run Tryz.prog W = .ok 1 W := sizeOf_of (by kernel_rfl) W
theorem size3 (W : World) : (Go.sizeOf 3).run Tryz.prog W = .ok 1 W := sizeOf_of (by kernel_rfl) W
theorem size50 (W : World) : (Go.sizeOf 60).run Tryz.prog W = .ok 1 W := sizeOf_of (by kernel_rfl) W
theorem build79 (db : Nat) (W : World) : (Instr.build 89 ([(1, ptr db)] : List (Nat × Value)).toArray).run Tryz.prog W = .ok (.agg (z77 ++ tl0 db).toArray) W := by
  have hz := (zero_of_info zinfo79).1 W
  have hzl := z77_len
  unfold tl0
  generalize z77 = z at hz hzl ⊢
  simp only [Instr.build, Sem.run_bind, hz, Result.andThen_ok, Value.cells, run_underlying Tryz.underlying89]
  simp [size77, size26, size3, size50, size4]
  rw [fill_one _ _ 1 (ptr db) _ 1030 (by simp [Value.cells]) (by simp [Value.cells, hzl])]
  have e1 : (z ++ [Value.pointer none, Value.int .i64 0, Value.int .u64 0, Value.bool false]).take 1030 = z := List.take_left' hzl
  have e2 : (z ++ [Value.pointer none, Value.int .i64 0, Value.int .u64 0, Value.bool false]).drop (1030 + 1) = [Value.int .i64 0, Value.int .u64 0, Value.bool false] := by
    rw [show z ++ [Value.pointer none, Value.int .i64 0, Value.int .u64 0, Value.bool false] = (z ++ [Value.pointer none]) ++ [Value.int .i64 0, Value.int .u64 0, Value.bool false] by simp, List.drop_left' (by simp [hzl])]
  simp only [Value.cells, List.size_toArray, List.length_cons, List.length_nil]
  rw [e1, e2]
  rfl
theorem zs_sta : zs = scs sta0 := by kernel_rfl
theorem ocell_at (db j : Nat) (hj : j < 1034) : (z77 ++ tl0 db)[j]? = some (ocell lk0 db j) := by
  unfold z77 tl0 ocell lk0
  rw [zs_sta]
  by_cases h1 : j < 513
  · rw [if_pos h1, List.append_assoc, List.getElem?_append_left (by rw [scs_len]; exact h1), scs_at _ _ h1]
  · rw [if_neg h1, List.append_assoc, List.getElem?_append_right (by rw [scs_len]; omega), scs_len]
    by_cases h2 : j < 1026
    · rw [if_pos h2, List.append_assoc, List.getElem?_append_left (by rw [scs_len]; omega), scs_at _ _ (by omega)]
    · rw [if_neg h2, List.append_assoc, List.getElem?_append_right (by rw [scs_len]; omega), scs_len]
      rcases (by omega : j = 1026 ∨ j = 1027 ∨ j = 1028 ∨ j = 1029 ∨ j = 1030 ∨ j = 1031 ∨ j = 1032 ∨ j = 1033) with rfl | rfl | rfl | rfl | rfl | rfl | rfl | rfl <;> rfl
/-- The store that lies on a disk. -/
noncomputable def opened (d : Dsk) : Sto := { n := d.n, cur := Vw.base (lkTo d d.n 2).kept, kept := (lkTo d d.n 2).kept, changed := false, marks := [], us := [], inForce := (lkTo d d.n 2).force, stamp := (lkTo d d.n 2).stamp, dead := false }
theorem lk_ok (d : Dsk) (k : Nat) (hn : d.n ≤ 4096) : StaOk d.n (lkTo d d.n k).kept := by
  induction k with
  | zero => exact ⟨fun p h => (by cases h), .inl rfl⟩
  | succ k ih =>
    by_cases h : takes d d.n k (lkTo d d.n k)
    · show StaOk d.n (lkStep d d.n k (lkTo d d.n k)).kept
      rw [lk_yes h]; exact mayHead_ok h.2.2 hn
    · show StaOk d.n (lkStep d d.n k (lkTo d d.n k)).kept
      rw [lk_no h]; exact ih
theorem lk_force (d : Dsk) (k : Nat) : (lkTo d d.n k).force = 0 ∨ (lkTo d d.n k).force < k := by
  induction k with
  | zero => exact .inl rfl
  | succ k ih =>
    by_cases h : takes d d.n k (lkTo d d.n k)
    · refine .inr ?_
      show (lkStep d d.n k (lkTo d d.n k)).force < k + 1
      rw [lk_yes h]; exact Nat.lt_succ_self k
    · show (lkStep d d.n k (lkTo d d.n k)).force = 0 ∨ (lkStep d d.n k (lkTo d d.n k)).force < k + 1
      rw [lk_no h]
      exact ih.imp id fun e => Nat.lt_succ_of_lt e
theorem opened_good (d : Dsk) (h4 : 4 ≤ d.n) (h5 : d.n ≤ 4096) : SGood (opened d) :=
  have hk := lk_ok d 2 h5
  { n4 := h4, n5 := h5, kept := hk, view := fun k => base_ok hk
    chain := fun k x hx => by simp [opened] at hx
    mark := fun i x hx => by simp [opened] at hx
    mono := fun i j x y _ hx => by simp [opened] at hx
    none := fun _ => rfl, same := fun _ => rfl
    markSame := fun i x hx => by simp [opened] at hx
    force := by have := lk_force d 2; show (lkTo d d.n 2).force < 2; omega
    stamp := (lk_lt d d.n 2).1 }
section
variable {B : Nat} {W w w' : World} {sb db : Nat} {y y' : SLay} {s s' : Sto} {yd yd' : Lay} {d d' : Dsk} {m m' : Nat}
set_option maxHeartbeats 1000000 in
theorem abort_row {x : Lk} (hr : w.rowIs sb 89 1034 (ocell x db)) :
    Calls Tryz.prog 25 #[pt sb] w fun e w' => e = .returned (.tuple #[]) ∧ w'.rowIs sb 89 1034 (fun i => if i < 1030 then bcell x.kept (w.heap.size + 1) i else ocell x db i) ∧ MapN w' (w.heap.size + 1) 0 (fun _ => none) ∧ Fr (fun k => k = sb) w w' := by
  have hk : StaAt w sb 513 x.kept := fun j hj => by
    rw [hr.cell (by omega)]; unfold ocell; rw [if_neg (by omega), if_pos (by omega)]
    congr 2; omega
  have hk2 : StaAt w.drew sb 513 x.kept := hk
  have ld := Lib.hid (And.intro hk2.range (info73 x.kept))
  have hb := Lib.hid (begin_row (ocell x db) x.kept hr.drew)
  generalize scs x.kept = ar at ld hb
  clear hk hk2
  go_enter Tryz.func25, Tryz.ntmps25
  go_wp2
  go_still_tail 8, (by kernel_rfl)
  refine wpStill_load rfl 82 _ rfl sb 513 rfl _ _ ld.out.1 Tryz.underlying82 rfl ld.out.2 ?_
  refine wpStill_nil ?_
  change wpList _ _ _ _ _ w.drew
  go_wp2_with (go_at_call 66; refine hb.out.mono ?_; rintro e w1 ⟨rfl, h1, h2, h3⟩; have H1 := Lib.hid h1; have H2 := Lib.hid h2; have H3 := Lib.hid h3; clear h1 h2 h3)
  first | go_end0 | (simp only [Exit.inBlock, Exit.then]; refine bodyPost_ret (results_none rfl _ _ _) rfl ?_) | refine bodyPost_ret (results_none rfl _ _ _) rfl ?_
  exact ⟨rfl, H1.out, H2.out, (Fr.refl _ w).drew.trans H3.out fun _ _ e => e⟩
set_option maxHeartbeats 2000000 in
theorem open_any (st : Dk.St B W w db yd d m) (hT : Tab W) (hB : 0 < B) (hg : d.dead = false) (h4 : 4 ≤ d.n) (h5 : d.n ≤ 4096) (hs : (lkTo d d.n 2).stamp ≠ 18446744073709551615) :
    Calls Tryz.prog 27 #[ptr db] w fun e w' => ∃ sb y, e = .returned (.tuple #[pt sb, .int .i64 0]) ∧ Bo B W w' sb db y yd (opened d) d m ∧ Kf yd.foot w w' (both y yd) := by
  obtain ⟨V, hV⟩ : ∃ V, V = w.alloc (.cells (z77 ++ tl0 db).toArray 89) := ⟨_, rfl⟩
  have hb1 : Below w.heap.size w V := hV ▸ (Below.refl w.heap.size w).alloc (Nat.le_refl _) _
  have hrow : V.rowIs w.heap.size 89 1034 (ocell lk0 db) := by
    have := World.rowIs_alloc w (z77 ++ tl0 db).toArray 89 (ocell lk0 db) (fun i hi => by
      have hi : i < 1034 := by simpa [z77_len, tl0] using hi
      simpa using ocell_at db i hi)
    rw [hV]
    simpa [z77_len, tl0] using this
  have hD := st.is.below hb1
  have hnf : ¬ yd.foot w.heap.size := fun e => by have := st.is.foot _ e; omega
  have hbase : B ≤ w.heap.size := Nat.le_trans st.base st.bel.size
  have hTV : Tab V := hT.below (st.bel.trans (hb1.mono hbase)) hB
  have LK := Lib.hid (look_any hrow hD hTV hnf (by omega) hg h4 h5)
  have hdd := Dk.dead_any st.is
  rw [hg] at hdd
  have DD := Lib.hid hdd
  have SZ := Lib.hid (Dk.size_any st.is)
  have BD := Lib.hid (build79 db w)
  have hV' := Lib.hid hV
  have ST := Lib.hid st
  have HB1 := Lib.hid hb1
  have hne : ((lkTo d d.n 2).stamp : Int) ≠ 18446744073709551615 := by omega
  have hne' : (((lkTo d d.n 2).stamp : Int) == 18446744073709551615) = false := by simpa using hne
  have hn4 : ¬ (d.n : Int) < 4 := by omega
  generalize z77 ++ tl0 db = zl at BD hV' hV
  clear hrow hD hdd st hb1 hV hTV hs hne
  go_enter Tryz.func27, Tryz.ntmps27
  go_wp2_with (first
    | (with_reducible change wpList _ _ _ (Oper.mk _ (Op.build 89 _) _ _ _ _ :: _) _ _; refine wpList_build rfl 89 _ rfl [(1, ptr db)] rfl _ BD.out ?_)
    | (go_at_call 25; refine (abort_row R2.out).mono ?_; rintro e w3 ⟨rfl, h1, h2, h3⟩; have H1 := Lib.hid h1; have H2 := Lib.hid h2; have H3 := Lib.hid h3; clear h1 h2 h3)
    | (go_at_call 67; rw [← hV'.out]; refine LK.out.mono ?_; rintro e w2 ⟨rfl, hr2, hf2⟩; have R2 := Lib.hid hr2; have F2 := Lib.hid hf2; have c32 : w2.cell? ⟨w.heap.size, 1032, none⟩ = some (.int .u64 ((lkTo d d.n 2).stamp : Int)) := hr2.cell (by omega); clear hr2 hf2)
    | (go_at_call 50; refine SZ.out.mono ?_; rintro e w5 ⟨rfl, hw5⟩; obtain rfl := hw5.symm)
    | (go_at_call 34; refine DD.out.mono ?_; rintro e w5 ⟨rfl, hw5⟩; obtain rfl := hw5.symm))
  go_ret2
  have hs2 := F2.out.size
  have hsV := HB1.out.size
  have hlt2 := R2.out.lt
  have hsz : w.heap.size + 1 ≤ w2.heap.size := by omega
  have hfm : w2.heap.size + 1 < w3.heap.size := H2.out.lt
  have hs3 := H3.out.size
  have hF : Fr (fun k => k = w.heap.size) w w3 := ((Fr.ofBelow (F := fun k => k = w.heap.size) HB1.out).trans F2.out fun _ _ e => e).trans H3.out fun _ _ e => e
  have hB3 : Below w.heap.size w w3 := hF.below (Nat.le_refl _) fun k e => by omega
  have hI : IsS w3 w.heap.size ⟨w2.heap.size + 1, 0, fun _ => none, .slice none 0 0, .slice none 0 0, [], fun k => if k = w.heap.size then some .store else if k = w2.heap.size + 1 then some .fresh else none⟩ db ((opened d).begin (lkTo d d.n 2).kept) := by
    refine IsS.begun H1.out (fun i hi hi2 => ?_) H2.out ?_ ?_ ?_
    · rcases (by omega : i = 1030 ∨ i = 1031 ∨ i = 1032 ∨ i = 1033) with rfl | rfl | rfl | rfl <;> rfl
    · simp
    · show (if w2.heap.size + 1 = w.heap.size then some SRole.store else if w2.heap.size + 1 = w2.heap.size + 1 then some SRole.fresh else none) = _
      rw [if_neg (by omega), if_pos rfl]
    · intro k hk
      by_cases e1 : k = w.heap.size
      · omega
      · by_cases e2 : k = w2.heap.size + 1
        · omega
        · simp [e1, e2] at hk
  have hI2 : IsS w3 w.heap.size _ db (opened d) := hI
  have hft : ∀ k, (⟨w2.heap.size + 1, 0, fun _ => none, .slice none 0 0, .slice none 0 0, [], fun k => if k = w.heap.size then some .store else if k = w2.heap.size + 1 then some .fresh else none⟩ : SLay).foot k → w.heap.size ≤ k := fun k hk => by
    unfold SLay.foot at hk
    simp only at hk
    by_cases e1 : k = w.heap.size
    · omega
    · by_cases e2 : k = w2.heap.size + 1
      · omega
      · simp [e1, e2] at hk
  refine ⟨w.heap.size, _, rfl, ⟨ST.out.keep hB3, hI2, opened_good d h4 h5, fun k hk hf => ?_, fun k hk => Nat.le_trans hbase (hft k hk), rfl, Nat.zero_le _, hT, hB⟩, ⟨Fr.ofBelow hB3, fun k hk e => ?_⟩⟩
  · have := ST.out.is.foot k hf
    have := hft k hk
    omega
  · rcases e with e | e
    · have := hft k e; omega
    · exact e
end
end Go.Proofs.YtnpebfolmdbipaaGreatDoor.Sk

namespace Go.Proofs.YtnpebfolmdbipaaGreatDoor.Sk
set_option maxRecDepth 8000
set_option linter.unusedVariables false
set_option linter.unusedSimpArgs false
open Go.RowKit Mem Go.ChangeMaps
open Dk (cod elem cod_inj elem_mk elem_inv key key_inj wf_key keyed3 MapIs Fr ptr hmf cell_alloc cell_alloc_new zero42 IsD Dsk Lay drewN_cell Kp ref_zero newD newY)
/-- An empty store. -/
def sto0 (n : Nat) : Sto := { n := n, cur := Vw.base sta0, kept := sta0, changed := false, marks := [], us := [], inForce := 0, stamp := 0, dead := false }
theorem newest_zero : Frm.newest Dk.zpage = 0 := by decide +kernel
theorem page_new (n p : Nat) : (newD n).page p = Dk.zpage := rfl
theorem lk_new (n : Nat) : lkTo (newD n) n 2 = lk0 := by
  have h : ∀ a x, lkStep (newD n) n a x = { x with stamp := max x.stamp 0 } := fun a x => by
    rw [lk_no (fun e => by have := e.1.2.1; rw [page_new, newest_zero] at this; omega), page_new, newest_zero]
  show lkStep (newD n) n 1 (lkStep (newD n) n 0 lk0) = lk0
  rw [h, h]
  rfl
theorem opened_new (n : Nat) : opened (newD n) = sto0 n := by
  unfold opened sto0
  have e : (newD n).n = n := rfl
  rw [e, lk_new]; rfl
section
variable {B : Nat} {W w w' : World} {sb db : Nat} {y y' : SLay} {s s' : Sto} {yd yd' : Lay} {d d' : Dsk} {m m' : Nat}
set_option maxHeartbeats 1000000 in
theorem made_any (n : Nat) (w : World) (hT : Tab w) (h4 : 4 ≤ n) (h5 : n ≤ 4096) :
    Calls Tryz.prog 10 #[.int .i64 (n : Int)] w fun e w' => ∃ sb db y yd, e = .returned (.tuple #[ptr db, pt sb]) ∧ Bo w.heap.size w w' sb db y yd (sto0 n) (newD n) 0 := by
  have NW := Lib.hid (Dk.St.new n w (by omega) h5)
  have hst : (lkTo (newD n) (newD n).n 2).stamp ≠ 18446744073709551615 := by
    have e : (newD n).n = n := rfl
    rw [e, lk_new]; show (0 : Nat) ≠ _; omega
  have OP := Lib.hid (fun (w1 : World) (st : Dk.St w.heap.size w w1 (w.heap.size + 2) (newY w.heap.size) (newD n) 0) => open_any st hT hT.1 rfl h4 h5 hst)
  clear hst
  go_enter Tryz.func10, Tryz.ntmps10
  go_wp2_with (first
    | (go_at_call 27; refine (OP.out _ S1.out).mono ?_; rintro e w2 ⟨sb, y, rfl, b2, k2⟩; have B2 := Lib.hid b2; clear b2 k2)
    | (go_at_call 43; refine NW.out.mono ?_; rintro e w1 ⟨rfl, s1⟩; have S1 := Lib.hid s1; clear s1))
  go_ret2
  exact ⟨sb, _, y, _, rfl, opened_new n ▸ B2.out⟩
/-! ### The other answers of Open -/
theorem open_nil (w : World) : Calls Tryz.prog 27 #[.pointer none] w fun e w' => e = .returned (.tuple #[.pointer none, .int .i64 8]) ∧ w' = w := by
  go_enter Tryz.func27, Tryz.ntmps27
  go_wp2
  go_ret2
  exact ⟨rfl, rfl⟩
theorem open_dead (hd : IsD w db yd d) (hg : d.dead = true) : Calls Tryz.prog 27 #[ptr db] w fun e w' => e = .returned (.tuple #[.pointer none, .int .i64 9]) ∧ w' = w := by
  have hdd := Dk.dead_any hd
  rw [hg] at hdd
  have DD := Lib.hid hdd
  clear hd hdd
  go_enter Tryz.func27, Tryz.ntmps27
  go_wp2_with (go_at_call 34; refine DD.out.mono ?_; rintro e w5 ⟨rfl, hw5⟩; obtain rfl := hw5.symm)
  go_ret2
  exact ⟨rfl, rfl⟩
theorem open_small (hd : IsD w db yd d) (hg : d.dead = false) (hn : d.n < 4) : Calls Tryz.prog 27 #[ptr db] w fun e w' => e = .returned (.tuple #[.pointer none, .int .i64 1]) ∧ w' = w := by
  have hdd := Dk.dead_any hd
  rw [hg] at hdd
  have DD := Lib.hid hdd
  have SZ := Lib.hid (Dk.size_any hd)
  have hn' : (d.n : Int) < 4 := by omega
  clear hd hdd
  go_enter Tryz.func27, Tryz.ntmps27
  go_wp2_with (first
    | (go_at_call 50; refine SZ.out.mono ?_; rintro e w5 ⟨rfl, hw5⟩; obtain rfl := hw5.symm)
    | (go_at_call 34; refine DD.out.mono ?_; rintro e w5 ⟨rfl, hw5⟩; obtain rfl := hw5.symm))
  go_ret2
  exact ⟨rfl, rfl⟩
set_option maxHeartbeats 2000000 in
theorem open_broken (st : Dk.St B W w db yd d m) (hT : Tab W) (hB : 0 < B) (hg : d.dead = false) (h4 : 4 ≤ d.n) (h5 : d.n ≤ 4096) (hs : (lkTo d d.n 2).stamp = 18446744073709551615) :
    Calls Tryz.prog 27 #[ptr db] w fun e w' => e = .returned (.tuple #[.pointer none, .int .i64 10]) ∧ Below w.heap.size w w' := by
  obtain ⟨V, hV⟩ : ∃ V, V = w.alloc (.cells (z77 ++ tl0 db).toArray 89) := ⟨_, rfl⟩
  have hb1 : Below w.heap.size w V := hV ▸ (Below.refl w.heap.size w).alloc (Nat.le_refl _) _
  have hrow : V.rowIs w.heap.size 89 1034 (ocell lk0 db) := by
    have := World.rowIs_alloc w (z77 ++ tl0 db).toArray 89 (ocell lk0 db) (fun i hi => by
      have hi : i < 1034 := by simpa [z77_len, tl0] using hi
      simpa using ocell_at db i hi)
    rw [hV]
    simpa [z77_len, tl0] using this
  have hD := st.is.below hb1
  have hnf : ¬ yd.foot w.heap.size := fun e => by have := st.is.foot _ e; omega
  have hbase : B ≤ w.heap.size := Nat.le_trans st.base st.bel.size
  have hTV : Tab V := hT.below (st.bel.trans (hb1.mono hbase)) hB
  have LK := Lib.hid (look_any hrow hD hTV hnf (by omega) hg h4 h5)
  have hdd := Dk.dead_any st.is
  rw [hg] at hdd
  have DD := Lib.hid hdd
  have SZ := Lib.hid (Dk.size_any st.is)
  have BD := Lib.hid (build79 db w)
  have hV' := Lib.hid hV
  have HB1 := Lib.hid hb1
  have C32 := Lib.hid (fun (w2 : World) (hr2 : w2.rowIs w.heap.size 89 1034 (ocell (lkTo d d.n 2) db)) => (show w2.cell? ⟨w.heap.size, 1032, none⟩ = some (.int .u64 18446744073709551615) by
    have h := hr2.cell (i := 1032) (by omega)
    rw [h]
    show some (Value.int .u64 ((lkTo d d.n 2).stamp : Int)) = _
    rw [hs]; rfl))
  have hn4 : ¬ (d.n : Int) < 4 := by omega
  generalize z77 ++ tl0 db = zl at BD hV' hV
  clear hrow hD hdd st hb1 hV hTV hs
  go_enter Tryz.func27, Tryz.ntmps27
  go_wp2_with (first
    | (with_reducible change wpList _ _ _ (Oper.mk _ (Op.build 89 _) _ _ _ _ :: _) _ _; refine wpList_build rfl 89 _ rfl [(1, ptr db)] rfl _ BD.out ?_)
    | (go_at_call 67; rw [← hV'.out]; refine LK.out.mono ?_; rintro e w2 ⟨rfl, hr2, hf2⟩; have F2 := Lib.hid hf2; have c32 := C32.out w2 hr2; clear hr2 hf2)
    | (go_at_call 50; refine SZ.out.mono ?_; rintro e w5 ⟨rfl, hw5⟩; obtain rfl := hw5.symm)
    | (go_at_call 34; refine DD.out.mono ?_; rintro e w5 ⟨rfl, hw5⟩; obtain rfl := hw5.symm))
  go_ret2
  exact ⟨rfl, HB1.out.trans (F2.out.below HB1.out.size fun k e => by omega)⟩
end
end Go.Proofs.YtnpebfolmdbipaaGreatDoor.Sk

namespace Go.Proofs.YtnpebfolmdbipaaGreatDoor.Sk
set_option maxRecDepth 8000
set_option linter.unusedVariables false
set_option linter.unusedSimpArgs false
open Go.RowKit Mem Go.ChangeMaps
open Dk (cod elem cod_inj elem_mk elem_inv key key_inj wf_key keyed3 MapIs Fr ptr hmf cell_alloc cell_alloc_new zero42 IsD Dsk Lay drewN_cell Kp ref_zero newD newY)
/-! ### A living disk without a fuse, as data -/
structure Liv (d : Dsk) : Prop where
  dead : d.dead = false
  fuse : d.fuse = none
theorem Liv.burn {d : Dsk} (h : Liv d) : d.burn = d ∧ d.burnt = false := by
  unfold Dk.Dsk.burn Dk.Dsk.burnt
  rw [h.fuse]; exact ⟨rfl, rfl⟩
theorem Liv.went {d : Dsk} (h : Liv d) : d.went = 0 := by unfold Dk.Dsk.went; rw [h.burn.2]; rfl
theorem put_page (d : Dsk) (i : Nat) (l : List UInt8) (j : Nat) : (d.put i l).page j = if j = i then l else d.page j := by
  unfold Dk.Dsk.put Dk.Dsk.page
  split <;> (show ((if j = i then some l else d.wait j).getD (d.last j)) = _; split <;> rfl)
theorem put_fields (d : Dsk) (i : Nat) (l : List UInt8) : (d.put i l).dead = d.dead ∧ (d.put i l).fuse = d.fuse := by
  unfold Dk.Dsk.put; split <;> exact ⟨rfl, rfl⟩
theorem Liv.doW {d : Dsk} (h : Liv d) {i : Nat} (hi : i < d.n) (l : List UInt8) : d.ansW i = 0 ∧ Liv (d.doW i l) ∧ ∀ j, (d.doW i l).page j = if j = i then l else d.page j := by
  have hr : d.ref i = 0 := (ref_zero d i).2 ⟨h.dead, by omega, by omega⟩
  have hp : Liv (d.put i l) := ⟨(put_fields d i l).1.trans h.dead, (put_fields d i l).2.trans h.fuse⟩
  have e : d.doW i l = d.put i l := by
    unfold Dk.Dsk.doW
    rw [if_pos hr, Int.toNat_natCast, hp.burn.1]
  refine ⟨?_, e ▸ hp, fun j => ?_⟩
  · unfold Dk.Dsk.ansW; rw [if_pos hr, h.went]
  · rw [e]; exact put_page d i l j
theorem Liv.doF {d : Dsk} (h : Liv d) : d.ansF = 0 ∧ Liv d.doF ∧ (∀ j, d.doF.page j = d.page j) ∧ ∀ j, d.doF.wait j = none := by
  have e : d.doF = d.flushed := by
    unfold Dk.Dsk.doF Dk.Dsk.flush
    rw [h.dead, h.burn.2, h.burn.1]; rfl
  refine ⟨?_, ?_, ?_, ?_⟩
  · unfold Dk.Dsk.ansF; rw [h.dead, h.went]; rfl
  · rw [e]; exact ⟨h.dead, h.fuse⟩
  · intro j; rw [e]; rfl
  · intro j; rw [e]; rfl
theorem Liv.layTo {d : Dsk} (h : Liv d) (s : Sto) (t : Nat) (l : List Nat) (hl : ∀ p, p ∈ l → p < d.n) : (layTo s t d l).1 = 0 ∧ Liv (layTo s t d l).2 ∧ ∀ j, (layTo s t d l).2.page j = if j ∈ l then pageF s t j else d.page j := by
  induction l generalizing d with
  | nil => exact ⟨rfl, h, fun j => by simp [Sk.layTo]⟩
  | cons p l ih =>
    have h1 := h.doW (hl p (by simp)) (pageF s t p)
    have h2 := ih h1.2.1 (fun q hq => by rw [doW_n]; exact hl q (by simp [hq]))
    rw [layTo_cons, if_pos h1.1]
    refine ⟨h2.1, h2.2.1, fun j => ?_⟩
    rw [h2.2.2 j, h1.2.2 j]
    by_cases e : j ∈ l
    · rw [if_pos e, if_pos (by simp [e])]
    · rw [if_neg e]
      by_cases e2 : j = p
      · subst e2; rw [if_pos rfl, if_pos (by simp)]
      · rw [if_neg e2, if_neg (by simp [e, e2])]
theorem Liv.write {s : Sto} {d : Dsk} (h : Liv d) (hg : SGood s) (hn : s.n = d.n) (hs : s.stamp ≠ 18446744073709551615) :
    (writeD s d).1 = 0 ∧ Liv (writeD s d).2 ∧ (∀ j, (writeD s d).2.wait j = none) ∧ ∀ j, (writeD s d).2.page j = if j = s.head then headF s (s.stamp + 1) else if (s.cur.fresh j).isSome then pageF s (s.stamp + 1) j else d.page j := by
  have hfr : ∀ p, p ∈ freshPs s ↔ (s.cur.fresh p).isSome = true := fun p => by
    rw [mem_freshPs]
    refine ⟨fun e => e.2, fun e => ⟨?_, e⟩⟩
    have h1 := (hg.cur.fresh p).1 (by intro e2; rw [e2] at e; cases e)
    have h2 := hg.cur.has p h1.1
    have := hg.n5
    omega
  have hlt : ∀ p, p ∈ freshPs s → p < d.n := fun p hp => by
    have h1 := (hg.cur.fresh p).1 (by intro e2; have := (hfr p).1 hp; rw [e2] at this; cases this)
    have h2 := hg.cur.has p h1.1
    omega
  have h1 := h.layTo s (s.stamp + 1) (freshPs s) hlt
  have h2 := h1.2.1.doF
  have hn2 : (Sk.layTo s (s.stamp + 1) d (freshPs s)).2.doF.n = d.n := by rw [doF_n, layTo_n]
  have hh : s.head < (Sk.layTo s (s.stamp + 1) d (freshPs s)).2.doF.n := by
    rw [hn2]; have := hg.n4; unfold Sto.head; omega
  have h3 := h2.2.1.doW hh (headF s (s.stamp + 1))
  have h4 := h3.2.1.doF
  have e : writeD s d = ((0 : Int), ((Sk.layTo s (s.stamp + 1) d (freshPs s)).2.doF.doW s.head (headF s (s.stamp + 1))).doF) := by
    unfold writeD w0 w1 w2 w3
    rw [if_neg hs, if_pos h1.1, if_pos h2.1, if_pos h3.1, h4.1]
  rw [e]
  refine ⟨rfl, h4.2.1, h4.2.2.2, fun j => ?_⟩
  rw [h4.2.2.1, h3.2.2, h2.2.2.1, h1.2.2]
  by_cases e1 : j = s.head
  · rw [if_pos e1, if_pos e1]
  · rw [if_neg e1, if_neg e1]
    by_cases e2 : j ∈ freshPs s
    · rw [if_pos e2, if_pos ((hfr j).1 e2)]
    · rw [if_neg e2, if_neg (fun e3 => e2 ((hfr j).2 e3))]
theorem writeD_n (s : Sto) (d : Dsk) : (writeD s d).2.n = d.n := by
  unfold writeD w0 w1 w2 w3
  repeat' split
  all_goals simp only [doF_n, doW_n, layTo_n]
/-! ### What look finds behind a commit -/
theorem lk_le (d : Dsk) (n : Nat) : (lkTo d n 2).stamp = max (Frm.newest (d.page 0)) (Frm.newest (d.page 1)) ∧ (lkTo d n 1).best ≤ Frm.newest (d.page 0) ∧ (lkTo d n 1).stamp = Frm.newest (d.page 0) := by
  refine ⟨?_, ?_, ?_⟩
  · show (lkStep d n 1 (lkStep d n 0 lk0)).stamp = _
    rw [lk_stamp, lk_stamp]
    show max (max 0 _) _ = _
    omega
  · show (lkStep d n 0 lk0).best ≤ _
    unfold lkStep
    split
    · exact Nat.le_refl _
    · exact Nat.zero_le _
  · show (lkStep d n 0 lk0).stamp = _
    rw [lk_stamp]
    show max 0 _ = _
    omega
theorem takes_head {d : Dsk} {n a t : Nat} {x : Lk} {st : Sta} (ha : a < 2) (hp : d.page a = Frm.frame a 1 t (headOf st n)) (hs : StaOk n st) (h4 : 4 ≤ n) (h5 : n ≤ 4096) (ht : t < 18446744073709551616) (ht0 : 0 < t) :
    Frm.newest (d.page a) = t ∧ staIn (Frm.held (d.page a)) = st ∧ (takes d n a x ↔ x.best < t) := by
  have hl : (headOf st n).length ≤ 4011 := by rw [headOf_len]; omega
  have m := mayHead_head st n hs h5 h4
  have e1 : Frm.newest (d.page a) = t := by rw [hp, Frm.newest_frame _ _ _ _ hl ht]
  have e2 : Frm.held (d.page a) = headOf st n := by rw [hp, Frm.held_frame _ _ _ _ hl]
  refine ⟨e1, by rw [e2, m.2], ?_⟩
  unfold takes
  rw [e1, e2]
  exact ⟨fun h => h.2.1, fun h => ⟨by rw [hp]; exact (Frm.whole_frame a 1 t a 1 _ hl (by omega) (by omega) (by omega) ht ht0).2 ⟨rfl, rfl⟩, h, m.1⟩⟩
theorem lk_commit {d d' : Dsk} {n S h : Nat} {t : Sta} (hS : (lkTo d n 2).stamp = S) (hh : h < 2) (hp : d'.page h = Frm.frame h 1 (S + 1) (headOf t n)) (hq : d'.page (1 - h) = d.page (1 - h)) (hs : StaOk n t) (h4 : 4 ≤ n) (h5 : n ≤ 4096) (hl : S + 1 < 18446744073709551616) :
    lkTo d' n 2 = ⟨t, h, S + 1, S + 1⟩ := by
  have hm := (lk_le d n).1
  rw [hS] at hm
  rcases (by omega : h = 0 ∨ h = 1) with rfl | rfl
  · have T := takes_head (x := lk0) hh hp hs h4 h5 hl (by omega)
    have e0 : lkTo d' n 1 = ⟨t, 0, S + 1, S + 1⟩ := by
      show lkStep d' n 0 lk0 = _
      rw [lk_yes (T.2.2.2 (by show 0 < _; omega)), T.2.1, T.1]
      show (⟨t, 0, max 0 (S + 1), S + 1⟩ : Lk) = _
      rw [Nat.zero_max]
    have hq' : d'.page 1 = d.page 1 := hq
    show lkStep d' n 1 (lkTo d' n 1) = _
    rw [e0, lk_no (fun e => by have := e.2.1; rw [hq'] at this; simp only at this; omega), hq']
    show (⟨t, 0, max (S + 1) _, S + 1⟩ : Lk) = _
    rw [Nat.max_eq_left (by omega)]
  · have hq' : d'.page 0 = d.page 0 := hq
    have e0 := (lk_le d' n).2
    rw [hq'] at e0
    have T := takes_head (x := lkTo d' n 1) hh hp hs h4 h5 hl (by omega)
    show lkStep d' n 1 (lkTo d' n 1) = _
    rw [lk_yes (T.2.2.2 (by omega)), T.2.1, T.1, e0.2, Nat.max_eq_right (by omega)]
/-! ### Each act keeps a store one that may be -/
theorem doT_good {s : Sto} {d : Dsk} {l : List UInt8} (hg : SGood s) : SGood (doT s d l) := by
  unfold doT
  split
  · rename_i h
    have hsp : s.spare ≠ 0 := fun e => by unfold ansT at h; rw [e] at h; split at h; (· cases h); split at h <;> cases h
    have hl : l.length ≤ 4011 := by
      unfold ansT at h; split at h; (· cases h); split at h; (· cases h); omega
    rcases spare_is s with e | e
    · exact absurd e.1 hsp
    · exact take_good hg e.1 e.2.1 e.2.2.1 l hl
  · exact hg
theorem doT_n (s : Sto) (d : Dsk) (l : List UInt8) : (doT s d l).n = s.n := by unfold doT; split <;> rfl
theorem doG_good {s : Sto} {d : Dsk} {r : Int} (hg : SGood s) : SGood (doG s d r) := by
  unfold doG
  split
  · exact hg
  · split
    · exact hg
    · rename_i h
      unfold Sto.badG at h
      simp only [Bool.or_eq_true, Bool.not_eq_true', decide_eq_true_eq, not_or, Bool.not_eq_false] at h
      have := hasI_lt h.1
      exact give_good hg this.2.2 (by omega)
theorem doG_n (s : Sto) (d : Dsk) (r : Int) : (doG s d r).n = s.n := by by_cases h : gone s d = true <;> by_cases k : s.badG r = true <;> (unfold doG; simp [h, k]) <;> rfl
theorem doR_good {s : Sto} {d : Dsk} {r : Int} (hg : SGood s) : SGood (doR s d r) := by
  unfold doR
  split
  · exact hg
  · split
    · exact hg
    · rename_i h
      refine setRoot_good hg ?_
      unfold Sto.badR at h
      by_cases e : r = 0
      · subst e; exact .inl rfl
      · have : s.cur.now.hasI r = true := by simpa [e] using h
        exact .inr (hasI_lt this).2.2
theorem doR_n (s : Sto) (d : Dsk) (r : Int) : (doR s d r).n = s.n := by by_cases h : gone s d = true <;> by_cases k : s.badR r = true <;> (unfold doR; simp [h, k]) <;> rfl
theorem gone_eq (s : Sto) {d e : Dsk} (h : d.dead = e.dead) : gone s d = gone s e := by unfold gone; rw [h]
theorem ansT_eq (s : Sto) {d e : Dsk} (h : d.dead = e.dead) (l : List UInt8) : ansT s d l = ansT s e l ∧ doT s d l = doT s e l ∧ numT s d l = numT s e l := by
  have h1 : ansT s d l = ansT s e l := by unfold ansT; rw [gone_eq s h]
  exact ⟨h1, by unfold doT; rw [h1], by unfold numT; rw [h1]⟩
theorem ansG_eq (s : Sto) {d e : Dsk} (h : d.dead = e.dead) (r : Int) : ansG s d r = ansG s e r ∧ doG s d r = doG s e r := by
  unfold ansG doG; rw [gone_eq s h]; exact ⟨rfl, rfl⟩
theorem ansR_eq (s : Sto) {d e : Dsk} (h : d.dead = e.dead) (r : Int) : ansR s d r = ansR s e r ∧ doR s d r = doR s e r := by
  unfold ansR doR; rw [gone_eq s h]; exact ⟨rfl, rfl⟩
theorem cnt_in (f : Nat → Bool) (n : Nat) (h : ∀ p, f p = true → 2 ≤ p ∧ p < n) : ∀ k, cntTo f k ≤ min k n - 2
  | 0 => by show (0 : Nat) ≤ _; omega
  | k + 1 => by
    have ih := cnt_in f n h k
    show cntTo f k + (f k).toNat ≤ _
    cases e : f k
    · show cntTo f k + 0 ≤ _; omega
    · have := h k e
      show cntTo f k + 1 ≤ _; omega
theorem cnt_stop (f : Nat → Bool) (n : Nat) (h : ∀ p, n ≤ p → f p = false) : ∀ j, cntTo f (n + j) = cntTo f n
  | 0 => rfl
  | j + 1 => by
    show cntTo f (n + j) + (f (n + j)).toNat = _
    rw [h (n + j) (by omega), cnt_stop f n h j]; rfl
theorem used_in {s : Sto} (hg : SGood s) (p : Nat) (h : s.used p = true) : 2 ≤ p ∧ p < s.n := by
  unfold Sto.used at h
  rcases Bool.or_eq_true_iff.1 h with h | h
  · exact hg.cur.has p h
  · exact hg.kept.has p h
theorem left_le {s : Sto} (hg : SGood s) : cntTo s.used 4096 + 2 ≤ s.n := by
  have := cnt_in s.used s.n (used_in hg) 4096
  have := hg.n4
  have := hg.n5
  omega
theorem left_small {s : Sto} (hg : SGood s) : s.left = s.n - 2 - cntTo s.used s.n := by
  unfold Sto.left
  have h := cnt_stop s.used s.n (fun p hp => by
    cases e : s.used p
    · rfl
    · have := (used_in hg p e).2; omega) (4096 - s.n)
  rw [show s.n + (4096 - s.n) = 4096 by have := hg.n5; omega] at h
  rw [h]
section
variable {B : Nat} {W w w' : World} {sb db : Nat} {y y' : SLay} {s s' : Sto} {yd yd' : Lay} {d d' : Dsk} {m m' : Nat}
theorem Bo.Take (bo : Bo B W w sb db y yd s d m) (A : Option Addr) (c n : Nat) (l : List UInt8) (hr : Rd w w.heap.size A c l) (hl : l.length = n) (hm : m < 90000000) :
    Calls Tryz.prog 12 #[pt sb, .slice A n c] w fun e w' => e = .returned (.tuple #[.int .i64 (numT s d l : Int), .int .i64 (ansT s d l)]) ∧ ∃ y', Bo B W w' sb db y' yd (doT s d l) d (m + 2) ∧ Kf (both y yd) w w' (both y' yd) := by
  have := bo.sm
  refine (Take_any bo.is bo.st.is bo.nn bo.good.n5 A c n l hr hl (by omega)).mono ?_
  rintro e w' ⟨rfl, y1, h1, k1, m1⟩
  exact ⟨rfl, y1, bo.ofIs h1 (doT_good bo.good) (doT_n _ _ _) (by omega) (by omega) k1.kf⟩
theorem Bo.Give (bo : Bo B W w sb db y yd s d m) (r : Int) (hm : m < 90000000) :
    Calls Tryz.prog 15 #[pt sb, .int .i64 r] w fun e w' => e = .returned (.int .i64 (ansG s d r)) ∧ ∃ y', Bo B W w' sb db y' yd (doG s d r) d (m + 2) ∧ Kf (both y yd) w w' (both y' yd) := by
  have := bo.sm
  refine (Give_any bo.is bo.st.is r (by omega)).mono ?_
  rintro e w' ⟨rfl, y1, h1, k1, m1⟩
  exact ⟨rfl, y1, bo.ofIs h1 (doG_good bo.good) (doG_n _ _ _) (by omega) (by omega) k1.kf⟩
theorem Bo.SetRoot (bo : Bo B W w sb db y yd s d m) (r : Int) (hm : m < 90000000) :
    Calls Tryz.prog 17 #[pt sb, .int .i64 r] w fun e w' => e = .returned (.int .i64 (ansR s d r)) ∧ ∃ y', Bo B W w' sb db y' yd (doR s d r) d (m + 2) ∧ Kf (both y yd) w w' (both y' yd) := by
  have := bo.sm
  refine (SetRoot_any bo.is bo.st.is r (by omega)).mono ?_
  rintro e w' ⟨rfl, y1, h1, k1, m1⟩
  exact ⟨rfl, y1, bo.ofIs h1 (doR_good bo.good) (doR_n _ _ _) (by omega) (by omega) k1.kf⟩
theorem Bo.Abort (bo : Bo B W w sb db y yd s d m) :
    Calls Tryz.prog 25 #[pt sb] w fun e w' => e = .returned (.tuple #[]) ∧ ∃ y', Bo B W w' sb db y' yd (s.begin s.kept) d m ∧ Kf (both y yd) w w' (both y' yd) := by
  have := bo.sm
  refine (abort_any bo.is).mono ?_
  rintro e w' ⟨rfl, y1, h1, k1, m1⟩
  exact ⟨rfl, y1, bo.ofIs h1 (begin_good bo.good _ bo.good.kept) rfl (Nat.le_refl _) (by omega) k1.kf⟩
theorem Bo.Left (bo : Bo B W w sb db y yd s d m) :
    Calls Tryz.prog 41 #[pt sb] w fun e w' => e = .returned (.int .i64 (if gone s d then 0 else ((s.n - 2 - cntTo s.used s.n : Nat) : Int))) ∧ Below w.heap.size w w' := by
  rw [← left_small bo.good]
  exact Left_any bo.is bo.st.is bo.nn bo.good.n5 (left_le bo.good)
theorem Bo.Read (bo : Bo B W w sb db y yd s d m) (i : Int) :
    Calls Tryz.prog 39 #[pt sb, .int .i64 i] w fun e w' => ∃ v, e = .returned (.tuple #[v, .int .i64 (ansRd s d i)]) ∧ (ansRd s d i = 0 → ∃ l, rdOf s d i.toNat = some l ∧ Mem.Own 5 w' w.heap.size v l) ∧ (ansRd s d i ≠ 0 → v = .slice none 0 0) ∧ Below w.heap.size w w' :=
  Read_any bo.is bo.st.is bo.tab bo.good bo.nn i
/-- Another store was opened on the disk, or another thing happened to it. -/
theorem Bo.other (bo : Bo B W w sb db y yd s d m) {yd' : Lay} {d' : Dsk} {G : Nat → Prop} (k : Kf yd.foot w w' G) (hy : ∀ j, yd'.foot j → G j) (st : Dk.St B W w' db yd' d' m') (hn : d'.n = d.n) (hm : m ≤ m') : Bo B W w' sb db y yd' s d' m' :=
  (bo.ofSt st hn hm ⟨k.fr, fun j hj hf => k.foot j hj (hy j hf)⟩).1
end
theorem com_live {s : Sto} {d : Dsk} (h : Liv d) (hd : s.dead = false) (hg : SGood s) (hn : s.n = d.n) (hs : s.stamp ≠ 18446744073709551615) (hc : s.changed = true) :
    ansC s d = 0 ∧ stoC s d = s.wrote.begin s.cur.now ∧ diskC s d = (writeD s d).2 := by
  have hg1 : gone s d = false := by unfold gone; rw [hd, h.dead]; rfl
  have h0 := (h.write hg hn hs).1
  have e : comA s d = 0 := by unfold comA; rw [if_pos hc, h0]
  unfold ansC stoC diskC
  rw [hg1]
  simp only [Bool.false_eq_true, if_false]
  rw [e]
  refine ⟨rfl, ?_, ?_⟩
  · rw [if_neg (by decide)]; unfold comS; rw [if_pos hc, if_pos h0]
  · unfold comD; rw [if_pos hc]
end Go.Proofs.YtnpebfolmdbipaaGreatDoor.Sk

namespace Go.Proofs.YtnpebfolmdbipaaGreatDoor.Sk
set_option maxRecDepth 8000
set_option linter.unusedVariables false
set_option linter.unusedSimpArgs false
open Go.RowKit Mem Go.ChangeMaps
open Dk (cod elem cod_inj elem_mk elem_inv key key_inj wf_key keyed3 MapIs Fr ptr hmf cell_alloc cell_alloc_new zero42 IsD Dsk Lay drewN_cell Kp ref_zero newD newY)
def Dz : Dsk := newD 5
def g1 : Sto := doT (sto0 5) Dz [97]
def g2 : Sto := doT g1 Dz [98]
def g3 : Sto := doR g2 Dz 2
def g4 : Sto := doG g3 Dz 2
def g5 : Sto := doG g4 Dz 3
def g6 : Sto := doT g5 Dz [99]
theorem ng1 : (numT (sto0 5) Dz [97] : Int) = 2 ∧ ansT (sto0 5) Dz [97] = 0 := by decide +kernel
theorem ng2 : (numT g1 Dz [98] : Int) = 3 ∧ ansT g1 Dz [98] = 0 := by decide +kernel
theorem ng3 : ansR g2 Dz 2 = 0 := by decide +kernel
theorem ng4 : ansG g3 Dz 2 = 1 := by decide +kernel
theorem ng5 : ansG g4 Dz 3 = 0 := by decide +kernel
theorem ng6 : (numT g5 Dz [99] : Int) = 3 ∧ ansT g5 Dz [99] = 0 := by decide +kernel
theorem ng7 : ansRd g6 Dz 3 = 0 ∧ rdOf g6 Dz 3 = some [99] := by decide +kernel
theorem ng8 : (if gone g6 Dz then 0 else ((g6.n - 2 - cntTo g6.used g6.n : Nat) : Int)) = 1 := by decide +kernel
theorem ng9 : g6.dead = false ∧ g6.n = 5 ∧ g6.stamp = 0 ∧ g6.changed = true := by decide +kernel
section
variable {B : Nat} {W w w' : World} {sb db : Nat} {y y' : SLay} {s s' : Sto} {yd yd' : Lay} {d d' : Dsk} {m m' : Nat}
theorem gT (bo : Bo B W w sb db y yd s d m) (h0 : d.dead = false) (x : UInt8) (v : Value) (hv : bv x = v) (p a : Int) (h : (numT s Dz [x] : Int) = p ∧ ansT s Dz [x] = a) (hm : m < 90000000) :
    Calls Tryz.prog 12 #[pt sb, .slice (some ⟨w.heap.size, 0, none⟩) 1 1] (w.alloc (.cells #[v] 5 (1, 2))) fun e w' => e = .returned (.tuple #[.int .i64 p, .int .i64 a]) ∧ ∃ y', Bo B W w' sb db y' yd (doT s Dz [x]) d (m + 2) ∧ Kf (both y yd) w w' (both y' yd) := by
  have hr : Rd (w.alloc (.cells #[v] 5 (1, 2))) (w.alloc (.cells #[v] 5 (1, 2))).heap.size (some ⟨w.heap.size, 0, none⟩) 1 [x] := by
    have := Rd.lit w [x] 5 (w.heap.size + 1) (by omega) (by unfold maxLen; simp) (1, 2)
    subst hv
    rw [size_alloc']
    exact this
  have hb : Below w.heap.size w (w.alloc (.cells #[v] 5 (1, 2))) := (Below.refl _ w).alloc (Nat.le_refl _) _
  refine ((bo.keep hb).Take _ 1 1 [x] hr rfl hm).mono ?_
  have e := ansT_eq s (d := d) (e := Dz) (by rw [h0]; rfl) [x]
  rw [e.1, e.2.1, e.2.2, h.1, h.2]
  rintro e w' ⟨rfl, y1, b1, k1⟩
  exact ⟨rfl, y1, b1, (Kf.ofBelow _ hb).trans k1⟩
theorem gG (bo : Bo B W w sb db y yd s d m) (h0 : d.dead = false) (r a : Int) (h : ansG s Dz r = a) (hm : m < 90000000) :
    Calls Tryz.prog 15 #[pt sb, .int .i64 r] w fun e w' => e = .returned (.int .i64 a) ∧ ∃ y', Bo B W w' sb db y' yd (doG s Dz r) d (m + 2) ∧ Kf (both y yd) w w' (both y' yd) := by
  refine (bo.Give r hm).mono ?_
  have e := ansG_eq s (d := d) (e := Dz) (by rw [h0]; rfl) r
  rw [e.1, e.2, h]
  exact fun _ _ h => h
theorem gR (bo : Bo B W w sb db y yd s d m) (h0 : d.dead = false) (r a : Int) (h : ansR s Dz r = a) (hm : m < 90000000) :
    Calls Tryz.prog 17 #[pt sb, .int .i64 r] w fun e w' => e = .returned (.int .i64 a) ∧ ∃ y', Bo B W w' sb db y' yd (doR s Dz r) d (m + 2) ∧ Kf (both y yd) w w' (both y' yd) := by
  refine (bo.SetRoot r hm).mono ?_
  have e := ansR_eq s (d := d) (e := Dz) (by rw [h0]; rfl) r
  rw [e.1, e.2, h]
  exact fun _ _ h => h
/-- Commit at a living disk. -/
theorem gC (bo : Bo B W w sb db y yd s d m) (hl : Liv d) (hd : s.dead = false) (hs : s.stamp ≠ 18446744073709551615) (hc : s.changed = true) (hm : m < 90000000) :
    Calls Tryz.prog 23 #[pt sb] w fun e w' => e = .returned (.int .i64 0) ∧ ∃ y' yd', Bo B W w' sb db y' yd' (s.wrote.begin s.cur.now) (writeD s d).2 (m + 10000) ∧ Kf (both y yd) w w' (both y' yd') := by
  have e := com_live hl hd bo.good bo.nn hs hc
  refine (Commit_any bo (by omega)).mono ?_
  rw [e.1, e.2.1, e.2.2]
  exact fun _ _ h => h
set_option maxHeartbeats 4000000 in
theorem goes_any (w : World) (hT : Tab w) : Calls Tryz.prog 30 #[] w fun e w' => e = .returned (.bool true) ∧ Below w.heap.size w w' := by
  have kc := fun (w : World) (C : Array Value) (n c : Nat) => Lib.run_convert_bytes_const (P := Tryz.prog) w 36 5 C n c Tryz.underlying36 Tryz.underlying5
  have MA := Lib.hid (made_any 5 w hT (by omega) (by omega))
  have h99 : (str [99]).toList = [99] := str_toList _
  have h0 : Hid ((newD 5).dead = false) := Lib.hid rfl
  have hL : Hid (Liv (newD 5)) := Lib.hid ⟨rfl, rfl⟩
  clear hT
  go_enter Tryz.func30, Tryz.ntmps30
  go_wp2_with (first
    | (go_at_call 23; refine (gC B8.out hL.out ng9.1 (by rw [ng9.2.2.1]; omega) ng9.2.2.2 (by omega)).mono ?_; rintro e w9 ⟨rfl, y9, yd9, b9, k9⟩; have B9 := Lib.hid b9; clear b9 k9)
    | (go_at_call 41; refine (B7.out.Left).mono ?_; rw [show (if gone g6 (newD 5) then 0 else ((g6.n - 2 - cntTo g6.used g6.n : Nat) : Int)) = 1 from ng8]; rintro e w8 ⟨rfl, b8⟩; have B8 := Lib.hid (B7.out.keep b8); clear b8)
    | (go_at_call 39; refine (B6.out.Read 3).mono ?_; rw [show ansRd g6 (newD 5) 3 = 0 from ng7.1, show rdOf g6 (newD 5) (3 : Int).toNat = some [99] from ng7.2]; rintro e w7 ⟨v7, rfl, o7, _, b7⟩; obtain ⟨l7, e7, o7⟩ := o7 rfl; cases e7; have B7 := Lib.hid (B6.out.keep b7); obtain ⟨A7, c7, rfl, hr7, hlt7, hs7⟩ := o7.form; have K7 : (convert 36 9 (.slice A7 1 c7)).run Tryz.prog w7 = .ok (.string (str [99])) w7 := run_str_rd w7 hr7; clear b7 o7 hr7 hlt7 hs7)
    | (go_at_call 12; refine (gT B5.out h0.out 99 _ rfl 3 0 ng6 (by omega)).mono ?_; rintro e w6 ⟨rfl, y6, b6, k6⟩; have B6 := Lib.hid (show Bo _ _ _ _ _ _ _ g6 _ _ from b6); clear b6 k6)
    | (go_at_call 15; refine (gG B4.out h0.out 3 0 ng5 (by omega)).mono ?_; rintro e w5 ⟨rfl, y5, b5, k5⟩; have B5 := Lib.hid (show Bo _ _ _ _ _ _ _ g5 _ _ from b5); clear b5 k5)
    | (go_at_call 15; refine (gG B3.out h0.out 2 1 ng4 (by omega)).mono ?_; rintro e w4 ⟨rfl, y4, b4, k4⟩; have B4 := Lib.hid (show Bo _ _ _ _ _ _ _ g4 _ _ from b4); clear b4 k4)
    | (go_at_call 17; refine (gR B2.out h0.out 2 0 ng3 (by omega)).mono ?_; rintro e w3 ⟨rfl, y3, b3, k3⟩; have B3 := Lib.hid (show Bo _ _ _ _ _ _ _ g3 _ _ from b3); clear b3 k3)
    | (go_at_call 12; refine (gT B1.out h0.out 98 _ rfl 3 0 ng2 (by omega)).mono ?_; rintro e w2 ⟨rfl, y2, b2, k2⟩; have B2 := Lib.hid (show Bo _ _ _ _ _ _ _ g2 _ _ from b2); clear b2 k2)
    | (go_at_call 12; refine (gT B0.out h0.out 97 _ rfl 2 0 ng1 (by omega)).mono ?_; rintro e w1 ⟨rfl, y1, b1, k1⟩; have B1 := Lib.hid (show Bo _ _ _ _ _ _ _ g1 _ _ from b1); clear b1 k1)
    | (go_at_call 10; refine MA.out.mono ?_; rintro e w0 ⟨sb, db, y0, yd0, rfl, b0⟩; have B0 := Lib.hid b0; clear b0))
  go_ret
  exact ⟨rfl, B9.out.st.bel⟩
end
end Go.Proofs.YtnpebfolmdbipaaGreatDoor.Sk

namespace Go.Proofs.YtnpebfolmdbipaaGreatDoor.Sk
set_option maxRecDepth 8000
set_option linter.unusedVariables false
set_option linter.unusedSimpArgs false
open Go.RowKit Mem Go.ChangeMaps
open Dk (cod elem cod_inj elem_mk elem_inv key key_inj wf_key keyed3 MapIs Fr ptr hmf cell_alloc cell_alloc_new zero42 IsD Dsk Lay drewN_cell Kp ref_zero newD newY)
open Fm (tab_low)
def k4 : Sto := doG g3 Dz 3
def k5 : Sto := doT k4 Dz [99]
def k6 : Sto := k5.wrote.begin k5.cur.now
def k7 : Sto := doT k6 Dz [100]
def k8 : Sto := doG k7 Dz 3
def kb : Sto := doT k8 Dz []
def k9 : Sto := kb.begin kb.kept
theorem nk4 : ansG g3 Dz 3 = 0 := by decide +kernel
theorem nk5 : (numT k4 Dz [99] : Int) = 3 ∧ ansT k4 Dz [99] = 0 := by decide +kernel
theorem nk6 : k5.dead = false ∧ k5.stamp = 0 ∧ k5.changed = true ∧ k5.head = 1 ∧ k5.n = 5 ∧ k5.cur.now.root = 2 := by decide +kernel
theorem nk7 : (numT k6 Dz [100] : Int) = 4 ∧ ansT k6 Dz [100] = 0 := by decide +kernel
theorem nk8 : ansG k7 Dz 3 = 0 := by decide +kernel
theorem nkb : (numT k8 Dz [] : Int) = 0 ∧ ansT k8 Dz [] = 3 := by decide +kernel
theorem nk9 : (if gone k9 Dz then 0 else ((k9.n - 2 - cntTo k9.used k9.n : Nat) : Int)) = 1 := by decide +kernel
theorem nk9d : gone k9 Dz = false := by decide +kernel
theorem nkz : (k5.cur.fresh 0).isSome = false := by decide +kernel
theorem sto0_good : SGood (sto0 5) := opened_new 5 ▸ opened_good (newD 5) (by show 4 ≤ 5; omega) (by show 5 ≤ 4096; omega)
theorem k5_good : SGood k5 := doT_good (doG_good (doR_good (doT_good (doT_good sto0_good))))
def D1 : Dsk := (writeD k5 (newD 5)).2
def P9 : List UInt8 := Frm.frame 0 1 9 [63]
def PM : List UInt8 := Frm.frame 0 1 18446744073709551615 []
def D2 : Dsk := D1.doW (0 : Nat) P9
def D3 : Dsk := D2.doW (0 : Nat) PM
theorem D1_n : D1.n = 5 := writeD_n _ _
theorem D2_n : D2.n = 5 := (doW_n _ _ _).trans D1_n
theorem D3_n : D3.n = 5 := (doW_n _ _ _).trans D2_n
theorem D1_w : (writeD k5 (newD 5)).1 = 0 ∧ Liv D1 ∧ (∀ j, D1.wait j = none) ∧ ∀ j, D1.page j = if j = k5.head then headF k5 (k5.stamp + 1) else if (k5.cur.fresh j).isSome then pageF k5 (k5.stamp + 1) j else (newD 5).page j := (show Liv (newD 5) from ⟨rfl, rfl⟩).write k5_good nk6.2.2.2.2.1 (by rw [nk6.2.1]; omega)
theorem D1_liv : Liv D1 := D1_w.2.1
theorem D1_one : D1.page 1 = Frm.frame 1 1 1 (headOf k5.cur.now 5) := by
  have h := D1_w.2.2.2 1
  rw [if_pos nk6.2.2.2.1.symm] at h
  refine Eq.trans h ?_
  unfold headF
  rw [nk6.2.2.2.1, nk6.2.1, nk6.2.2.2.2.1]
theorem D2_all : D1.ansW (0 : Nat) = 0 ∧ Liv D2 ∧ ∀ j, D2.page j = if j = 0 then P9 else D1.page j := D1_liv.doW (i := 0) (by rw [D1_n]; omega) P9
theorem D2_liv : Liv D2 := D2_all.2.1
theorem D3_all : D2.ansW (0 : Nat) = 0 ∧ Liv D3 ∧ ∀ j, D3.page j = if j = 0 then PM else D2.page j := D2_liv.doW (i := 0) (by rw [D2_n]; omega) PM
theorem D3_liv : Liv D3 := D3_all.2.1
theorem D2_zero : D2.page 0 = P9 := by have := D2_all.2.2 0; rwa [if_pos rfl] at this
theorem D2_one : D2.page 1 = Frm.frame 1 1 1 (headOf k5.cur.now 5) := by have := D2_all.2.2 1; rw [if_neg (by omega)] at this; exact this.trans D1_one
theorem D3_zero : D3.page 0 = PM := by have := D3_all.2.2 0; rwa [if_pos rfl] at this
theorem lk_D2 : lkTo D2 5 2 = ⟨k5.cur.now, 1, 9, 1⟩ := by
  have hN : Frm.newest (D2.page 0) = 9 := by rw [D2_zero]; exact Frm.newest_frame _ _ _ _ (by decide) (by decide)
  have hH : Frm.held (D2.page 0) = [63] := by rw [D2_zero]; exact Frm.held_frame _ _ _ _ (by decide)
  have e0 : lkTo D2 5 1 = ⟨sta0, 0, 9, 0⟩ := by
    show lkStep D2 5 0 lk0 = _
    rw [lk_no (fun e => by have := e.2.2.1; rw [hH] at this; simp at this), hN]
    rfl
  have T := takes_head (x := lkTo D2 5 1) (by omega) D2_one (n := 5) k5_good.cur.sta (by omega) (by omega) (by omega) (by omega)
  show lkStep D2 5 1 (lkTo D2 5 1) = _
  rw [lk_yes (T.2.2.2 (by rw [e0]; show 0 < 1; omega)), T.2.1, T.1, e0]
  rfl
theorem lk_D3 : (lkTo D3 5 2).stamp = 18446744073709551615 := by
  rw [(lk_le D3 5).1, D3_zero]
  have h1 : Frm.newest PM = 18446744073709551615 := Frm.newest_frame _ _ _ _ (by decide) (by decide)
  have h2 := Fm.newest_lt (D3.page 1)
  rw [h1]
  omega
theorem opened_D2 : (opened D2).cur.now.root = 2 ∧ gone (opened D2) D2 = false := by
  have e : lkTo D2 D2.n 2 = ⟨k5.cur.now, 1, 9, 1⟩ := by rw [D2_n]; exact lk_D2
  refine ⟨?_, ?_⟩
  · show (lkTo D2 D2.n 2).kept.root = 2
    rw [e]; exact nk6.2.2.2.2.2
  · show (false || D2.dead) = false
    rw [D2_liv.dead]; rfl
end Go.Proofs.YtnpebfolmdbipaaGreatDoor.Sk

namespace Go.Proofs.YtnpebfolmdbipaaGreatDoor.Sk
set_option maxRecDepth 8000
set_option linter.unusedVariables false
set_option linter.unusedSimpArgs false
open Go.RowKit Mem Go.ChangeMaps
open Dk (cod elem cod_inj elem_mk elem_inv key key_inj wf_key keyed3 MapIs Fr ptr hmf cell_alloc cell_alloc_new zero42 IsD Dsk Lay drewN_cell Kp ref_zero newD newY u8_info)
open Fm (tab_low)
def zl (n : Nat) : List UInt8 := List.replicate n 0
theorem make_zl (n : Nat) (hn : n ≤ 10000) (C : Array Value) (hC : bcs (zl n) = C) : ∀ W, (Instr.makeSlice 36 (.int .i64 (n : Int)) (.int .i64 (n : Int))).run Tryz.prog W = .ok (.slice (some ⟨W.heap.size, 0, none⟩) n n) (W.alloc (.cells C 5)) := by
  intro W
  have hr := run_make_row' (P := Tryz.prog) 36 5 (.int .u8 0) 1 Tryz.underlying36 u8_info rfl .i64 .i64 n (by omega) (by omega) W
  rw [bcs_zeros] at hr
  rw [← hC]
  exact hr
theorem rd_zl (w : World) (n : Nat) (hn : n ≤ 10000) (C : Array Value) (hC : bcs (zl n) = C) : Rd (w.alloc (.cells C 5)) (w.alloc (.cells C 5)).heap.size (some ⟨w.heap.size, 0, none⟩) n (zl n) := by
  subst hC
  have := Rd.lit w (zl n) 5 (w.heap.size + 1) (by omega) (by unfold zl maxLen; rw [List.length_replicate]; omega)
  rw [size_alloc']
  unfold zl at *
  rw [List.length_replicate] at this
  exact this
section
variable {B : Nat} {W w w' : World} {sb db : Nat} {y y' : SLay} {s s' : Sto} {yd yd' : Lay} {d d' : Dsk} {m m' : Nat}
/-- Take of nil. -/
theorem gTn (bo : Bo B W w sb db y yd s d m) (h0 : d.dead = false) (p a : Int) (h : (numT s Dz [] : Int) = p ∧ ansT s Dz [] = a) (hm : m < 90000000) :
    Calls Tryz.prog 12 #[pt sb, .slice none 0 0] w fun e w' => e = .returned (.tuple #[.int .i64 p, .int .i64 a]) ∧ ∃ y', Bo B W w' sb db y' yd (doT s Dz []) d (m + 2) ∧ Kf (both y yd) w w' (both y' yd) := by
  refine (bo.Take none 0 0 [] (Rd.nil _ _) rfl hm).mono ?_
  have e := ansT_eq s (d := d) (e := Dz) (by rw [h0]; rfl) []
  rw [e.1, e.2.1, e.2.2, h.1, h.2]
  exact fun _ _ h => h
/-- Take of too much. -/
theorem gTl (bo : Bo B W w sb db y yd s d m) (hg : gone s d = false) (A : Option Addr) (c n : Nat) (l : List UInt8) (hr : Rd w w.heap.size A c l) (hl : l.length = n) (hn : 4011 < n) (hm : m < 90000000) :
    Calls Tryz.prog 12 #[pt sb, .slice A n c] w fun e w' => e = .returned (.tuple #[.int .i64 0, .int .i64 2]) ∧ ∃ y', Bo B W w' sb db y' yd s d (m + 2) ∧ Kf (both y yd) w w' (both y' yd) := by
  refine (bo.Take A c n l hr hl hm).mono ?_
  have e : ansT s d l = 2 := by unfold ansT; rw [hg, hl, if_neg (by simp), if_pos hn]
  have e1 : doT s d l = s := by unfold doT; rw [e]; rfl
  have e2 : numT s d l = 0 := by unfold numT; rw [e]; rfl
  rw [e, e1, e2]
  exact fun _ _ h => h
/-- Put of a literal byte. -/
theorem gP (hT : Tab w) (x : UInt8) (v : Value) (hv : bv x = v) (t : Nat) (ti : Int) (ht : (t : Int) = ti) (P : List UInt8) (hP : Frm.frame 0 1 t [x] = P) (ht0 : t ≠ 0) (ht1 : t < 18446744073709551616) :
    Calls Tryz.prog 44 #[.int .i64 0, .int .u8 1, .int .u64 ti, .slice (some ⟨w.heap.size, 0, none⟩) 1 1] (w.alloc (.cells #[v] 5 (1, 2))) fun e w' => ∃ A c, e = .returned (.tuple #[.slice A 4096 c, .int .i64 0]) ∧ Rd w' w'.heap.size A c P ∧ (∀ a, A = some a → w.heap.size ≤ a.block) ∧ Below w.heap.size w w' := by
  have hb : Below w.heap.size w (w.alloc (.cells #[v] 5 (1, 2))) := (Below.refl _ w).alloc (Nat.le_refl _) _
  have hr : Rd (w.alloc (.cells #[v] 5 (1, 2))) (w.alloc (.cells #[v] 5 (1, 2))).heap.size (some ⟨w.heap.size, 0, none⟩) 1 [x] := by
    have := Rd.lit w [x] 5 (w.heap.size + 1) (by omega) (by unfold maxLen; simp) (1, 2)
    subst hv
    rw [size_alloc']
    exact this
  have h := Fm.put_ok 0 1 t (some ⟨w.heap.size, 0, none⟩) 1 1 [x] _ (tab_low hT hb) (by omega) (by omega) ht0 ht1 hr rfl (by omega)
  rw [ht, hP] at h
  have hl : P.length = 4096 := by rw [← hP]; exact Frm.length_frame _ _ _ _ (by simp)
  refine h.mono ?_
  rintro e w' ⟨v, rfl, ho, hb2⟩
  obtain ⟨A, c, rfl, hr2, hlt, _⟩ := ho.form
  rw [hl]
  refine ⟨A, c, rfl, hr2, fun a e => ?_, hb.trans (hb2.mono hb.size)⟩
  have := (hlt a.block (by rw [e]; rfl)).1
  have := hb.size
  omega
theorem gPn (hT : Tab w) (t : Nat) (ti : Int) (ht : (t : Int) = ti) (P : List UInt8) (hP : Frm.frame 0 1 t [] = P) (ht0 : t ≠ 0) (ht1 : t < 18446744073709551616) :
    Calls Tryz.prog 44 #[.int .i64 0, .int .u8 1, .int .u64 ti, .slice none 0 0] w fun e w' => ∃ A c, e = .returned (.tuple #[.slice A 4096 c, .int .i64 0]) ∧ Rd w' w'.heap.size A c P ∧ (∀ a, A = some a → w.heap.size ≤ a.block) ∧ Below w.heap.size w w' := by
  have h := Fm.put_ok 0 1 t none 0 0 [] _ hT (by omega) (by omega) ht0 ht1 (Rd.nil _ _) rfl (by omega)
  rw [ht, hP] at h
  have hl : P.length = 4096 := by rw [← hP]; exact Frm.length_frame _ _ _ _ (by simp)
  refine h.mono ?_
  rintro e w' ⟨v, rfl, ho, hb2⟩
  obtain ⟨A, c, rfl, hr2, hlt, _⟩ := ho.form
  rw [hl]
  exact ⟨A, c, rfl, hr2, fun a e => (hlt a.block (by rw [e]; rfl)).1, hb2⟩
/-- Write of such a page to the disk of a store. -/
theorem gW {w0 : World} (bo : Bo B W w0 sb db y yd s d m) (hb : Below w0.heap.size w0 w) (A : Option Addr) (c : Nat) (P : List UInt8) (hr : Rd w w.heap.size A c P) (hA : ∀ a, A = some a → w0.heap.size ≤ a.block) (hl : P.length = 4096) (hm : m < 90000000) :
    Calls Tryz.prog 45 #[ptr db, .int .i64 0, .slice A 4096 c] w fun e w' => e = .returned (.int .i64 (d.ansW (0 : Nat))) ∧ ∃ yd', Bo B W w' sb db y yd' s (d.doW (0 : Nat) P) (m + 2) ∧ Kf (both y yd) w0 w' (both y yd') := by
  have b1 := bo.keep hb
  refine (write_page b1.st 0 A c P hr hl (fun a e hf => by have := hA a e; have := bo.st.is.foot _ hf; omega) (by omega)).mono ?_
  rintro e w' ⟨rfl, yd1, h1, h2⟩
  have b2 := b1.ofSt h1 (doW_n _ _ _) (by omega) h2
  exact ⟨rfl, yd1, b2.1, (Kf.ofBelow _ hb).trans b2.2⟩
/-- Open of a disk on which another store lies. -/
theorem gO (bo : Bo B W w sb db y yd s d m) (hg : d.dead = false) (hs : (lkTo d d.n 2).stamp ≠ 18446744073709551615) :
    Calls Tryz.prog 27 #[ptr db] w fun e w' => ∃ tb y2, e = .returned (.tuple #[pt tb, .int .i64 0]) ∧ Bo B W w' tb db y2 yd (opened d) d m ∧ Bo B W w' sb db y yd s d m := by
  have := bo.good.n4
  have := bo.good.n5
  have := bo.nn
  refine (open_any bo.st bo.tabW bo.posB hg (by omega) (by omega) hs).mono ?_
  rintro e w' ⟨tb, y2, rfl, b2, k2⟩
  exact ⟨tb, y2, rfl, b2, bo.other k2 (fun j hj => .inr hj) b2.st rfl (Nat.le_refl _)⟩
theorem gX (bo : Bo B W w sb db y yd s d m) (hg : d.dead = false) (hs : (lkTo d d.n 2).stamp = 18446744073709551615) :
    Calls Tryz.prog 27 #[ptr db] w fun e w' => e = .returned (.tuple #[.pointer none, .int .i64 10]) ∧ Below w.heap.size w w' := by
  have := bo.good.n4
  have := bo.good.n5
  have := bo.nn
  exact open_broken bo.st bo.tabW bo.posB hg (by omega) (by omega) hs
end
end Go.Proofs.YtnpebfolmdbipaaGreatDoor.Sk

namespace Go.Proofs.YtnpebfolmdbipaaGreatDoor.Sk
set_option maxRecDepth 8000
set_option linter.unusedVariables false
set_option linter.unusedSimpArgs false
open Go.RowKit Mem Go.ChangeMaps
open Dk (cod elem cod_inj elem_mk elem_inv key key_inj wf_key keyed3 MapIs Fr ptr hmf cell_alloc cell_alloc_new zero42 IsD Dsk Lay drewN_cell Kp ref_zero newD newY u8_info)
open Fm (tab_low)
set_option maxHeartbeats 8000000 in
theorem storeKnown_walk (w : World) (hT : Tab w) : Calls Tryz.prog 8 #[] w fun e w' => e = .returned (.bool true) ∧ Below w.heap.size w w' := by
  have kc := fun (w : World) (C : Array Value) (n c : Nat) => Lib.run_convert_bytes_const (P := Tryz.prog) w 36 5 C n c Tryz.underlying36 Tryz.underlying5
  obtain ⟨C2, hC2⟩ : ∃ C, bcs (zl 4012) = C := ⟨_, rfl⟩
  have m2 : ∀ W, (Instr.makeSlice 36 (.int .i64 4012) (.int .i64 4012)).run Tryz.prog W = .ok (.slice (some ⟨W.heap.size, 0, none⟩) 4012 4012) (W.alloc (.cells C2 5)) := make_zl 4012 (by omega) C2 hC2
  have R2 := Lib.hid (fun W => rd_zl W 4012 (by omega) C2 hC2)
  have HT := Lib.hid hT
  have NW := Lib.hid (Dk.St.new 3 w (by omega) (by omega))
  have L0 : Hid (Liv (newD 5)) := Lib.hid ⟨rfl, rfl⟩
  have HA : Hid (∀ (W : World) (o : Obj), Below W.heap.size W (W.alloc o)) := Lib.hid fun W o => (Below.refl _ W).alloc (Nat.le_refl _) o
  clear hT hC2
  go_enter Tryz.func8, Tryz.ntmps8
  go_wp2_with (first
    | (go_at_call 30; refine (goes_any w19 B19.out.tab).mono ?_; rintro e w20 ⟨rfl, b20⟩; have B20 := Lib.hid (B19.out.keep b20); clear b20)
    | (go_at_call 12; refine (gTl (B17.out.keep (HA.out _ _)) (by rw [gone_eq k9 (show D3.dead = Dz.dead from D3_liv.dead)]; exact nk9d) _ 4012 4012 _ (R2.out w18) (by unfold zl; rw [List.length_replicate]) (by omega) (by omega)).mono ?_; rintro e w19 ⟨rfl, y19, b19, k19⟩; have B19 := Lib.hid b19; clear b19 k19)
    | (go_at_call 27; refine (gX B16.out D3_liv.dead (by rw [D3_n]; exact lk_D3)).mono ?_; rintro e w18 ⟨rfl, b18⟩; have B17 := Lib.hid (B16.out.keep b18); clear b18)
    | (go_at_call 45; refine (gW B14.out F15.out A15 c15 PM R15.out P15.out (Frm.length_frame _ _ _ _ (by decide)) (by omega)).mono ?_; rintro e w17 ⟨rfl, yd16, b16, k16⟩; have B16 := Lib.hid (show Bo _ _ _ _ _ _ _ _ D3 _ from b16); clear b16 k16)
    | (go_at_call 44; refine (gPn B14.out.tab 18446744073709551615 _ rfl PM rfl (by decide) (by decide)).mono ?_; rintro e w16 ⟨A15, c15, rfl, r15, p15, f15⟩; have R15 := Lib.hid r15; have P15 := Lib.hid p15; have F15 := Lib.hid f15; clear r15 p15 f15)
    | (go_at_call 40; refine (Root_any T13.out.is T13.out.st.is).mono ?_; rw [opened_D2.1, opened_D2.2]; rintro e w15 ⟨rfl, b14⟩; have B14 := Lib.hid (B13.out.keep b14); clear b14)
    | (go_at_call 27; refine (gO B12.out D2_liv.dead (by rw [D2_n, lk_D2]; show (9 : Nat) ≠ _; omega)).mono ?_; rintro e w14 ⟨tb, y13, rfl, t13, b13⟩; have T13 := Lib.hid t13; have B13 := Lib.hid b13; clear t13 b13)
    | (go_at_call 45; refine (gW B10.out F11.out A11 c11 P9 R11.out P11.out (Frm.length_frame _ _ _ _ (by decide)) (by omega)).mono ?_; rintro e w13 ⟨rfl, yd12, b12, k12⟩; have B12 := Lib.hid (show Bo _ _ _ _ _ _ _ _ D2 _ from b12); clear b12 k12)
    | (go_at_call 44; refine (gP B10.out.tab 63 _ rfl 9 _ rfl P9 rfl (by decide) (by decide)).mono ?_; rintro e w12 ⟨A11, c11, rfl, r11, p11, f11⟩; have R11 := Lib.hid r11; have P11 := Lib.hid p11; have F11 := Lib.hid f11; clear r11 p11 f11)
    | (go_at_call 41; refine (B9.out.Left).mono ?_; rw [show (if gone k9 D1 then 0 else ((k9.n - 2 - cntTo k9.used k9.n : Nat) : Int)) = 1 from (by rw [gone_eq k9 (show D1.dead = Dz.dead from D1_liv.dead)]; exact nk9)]; rintro e w11 ⟨rfl, b10⟩; have B10 := Lib.hid (B9.out.keep b10); clear b10)
    | (go_at_call 25; refine (B8.out.Abort).mono ?_; rintro e w10 ⟨rfl, y9, b9, q9⟩; have B9 := Lib.hid (show Bo _ _ _ _ _ _ _ k9 _ _ from b9); clear b9 q9)
    | (go_at_call 12; refine (gTn B7.out D1_liv.dead 0 3 nkb (by omega)).mono ?_; rintro e w9 ⟨rfl, y8, b8, q8⟩; have B8 := Lib.hid (show Bo _ _ _ _ _ _ _ kb _ _ from b8); clear b8 q8)
    | (go_at_call 15; refine (gG B6.out D1_liv.dead 3 0 nk8 (by omega)).mono ?_; rintro e w8 ⟨rfl, y7, b7, q7⟩; have B7 := Lib.hid (show Bo _ _ _ _ _ _ _ k8 _ _ from b7); clear b7 q7)
    | (go_at_call 12; refine (gT B5.out D1_liv.dead 100 _ rfl 4 0 nk7 (by omega)).mono ?_; rintro e w7 ⟨rfl, y6, b6, q6⟩; have B6 := Lib.hid (show Bo _ _ _ _ _ _ _ k7 _ _ from b6); clear b6 q6)
    | (go_at_call 23; refine (gC B4.out L0.out nk6.1 (by rw [nk6.2.1]; omega) nk6.2.2.1 (by omega)).mono ?_; rintro e w6 ⟨rfl, y5, yd5, b5, q5⟩; have B5 := Lib.hid (show Bo _ _ _ _ _ _ _ k6 D1 _ from b5); clear b5 q5)
    | (go_at_call 12; refine (gT B3.out L0.out.dead 99 _ rfl 3 0 nk5 (by omega)).mono ?_; rintro e w5 ⟨rfl, y4, b4, q4⟩; have B4 := Lib.hid (show Bo _ _ _ _ _ _ _ k5 _ _ from b4); clear b4 q4)
    | (go_at_call 15; refine (gG B2.out L0.out.dead 3 0 nk4 (by omega)).mono ?_; rintro e w4 ⟨rfl, y3, b3, q3⟩; have B3 := Lib.hid (show Bo _ _ _ _ _ _ _ k4 _ _ from b3); clear b3 q3)
    | (go_at_call 17; refine (gR B1.out L0.out.dead 2 0 ng3 (by omega)).mono ?_; rintro e w3 ⟨rfl, y2, b2, q2⟩; have B2 := Lib.hid (show Bo _ _ _ _ _ _ _ g3 _ _ from b2); clear b2 q2)
    | (go_at_call 12; refine (gT B0.out L0.out.dead 98 _ rfl 3 0 ng2 (by omega)).mono ?_; rintro e w2 ⟨rfl, y1, b1, q1⟩; have B1 := Lib.hid (show Bo _ _ _ _ _ _ _ g2 _ _ from b1); clear b1 q1)
    | (go_at_call 12; refine (gT BA.out L0.out.dead 97 _ rfl 2 0 ng1 (by omega)).mono ?_; rintro e w1 ⟨rfl, y0, b0, q0⟩; have B0 := Lib.hid (show Bo _ _ _ _ _ _ _ g1 _ _ from b0); clear b0 q0)
    | (go_at_call 10; refine (made_any 5 wn (tab_low HT.out SN.out.bel) (by omega) (by omega)).mono ?_; rintro e wm ⟨sb, db, ya, yda, rfl, ba⟩; have BA := Lib.hid ba; clear ba)
    | (go_at_call 27; refine (open_small SN.out.is rfl (by show 3 < 4; omega)).mono ?_; rintro e wx ⟨rfl, hwx⟩; obtain rfl := hwx.symm)
    | (go_at_call 43; refine NW.out.mono ?_; rintro e wn ⟨rfl, sn⟩; have SN := Lib.hid sn; clear sn)
    | (go_at_call 27; refine (open_nil _).mono ?_; rintro e wy ⟨rfl, hwy⟩; obtain rfl := hwy.symm))
  go_ret
  exact ⟨rfl, SN.out.bel.trans (B20.out.st.bel.mono SN.out.bel.size)⟩
end Go.Proofs.YtnpebfolmdbipaaGreatDoor.Sk

