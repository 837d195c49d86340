import Derived.Test.YtpnnakjffcohoaaS1
namespace Go.Proofs.Ytpnnakjffcohoaa
set_option linter.unusedVariables false
set_option linter.unusedSimpArgs false
open Go.RowKit Mem Go.ChangeMaps

/-- The fates 255 of all. -/
def ones (k : Nat) : List Int := List.replicate k 255
theorem ones_len (k : Nat) : (ones k).length = k := List.length_replicate
theorem ones_succ (k : Nat) : ones k ++ [255] = ones (k + 1) := List.replicate_succ'.symm
theorem ones_at (k j : Nat) (h : j < k) : (ones k).getD j 0 = 255 := by
  rw [List.getD_eq_getElem?_getD, ones, List.getElem?_replicate, if_pos h]; rfl
theorem torn_all (a b : List UInt8) (ha : a.length = 4096) (hb : b.length = 4096) : torn 255 a b = b := by
  apply List.ext_getElem?
  intro i
  by_cases hi : i < 4096
  · have := torn_at 255 a b ha hb i hi
    rw [bit_full _ (by omega), if_pos rfl, List.getD_eq_getElem?_getD, List.getD_eq_getElem?_getD] at this
    have h1 : i < (torn 255 a b).length := by rw [torn_len _ _ _ ha hb]; exact hi
    rw [List.getElem?_eq_getElem h1, List.getElem?_eq_getElem (by omega)] at this ⊢
    simpa using this
  · rw [List.getElem?_eq_none (by rw [torn_len _ _ _ ha hb]; omega), List.getElem?_eq_none (by omega)]

/-- A disk with power and no fuse. -/
structure Fw (d : Dsk) (n : Nat) (L : Nat → List UInt8) : Prop where
  n : d.n = n
  last : ∀ i, d.last i = L i
  dead : d.dead = false
  fuse : d.fuse = none
  good : Good d

theorem Fw.start (n : Nat) : Fw (newD n).doF n (fun _ => zpage) ∧ (newD n).ansF = 0 ∧ (newD n).doF.order = [] :=
  ⟨⟨rfl, fun _ => rfl, rfl, rfl, doF_good (newD_good n)⟩, rfl, rfl⟩
theorem Fw.start_page (n i : Nat) : (newD n).doF.page i = zpage := rfl
theorem burn_none {d : Dsk} (h : d.fuse = none) : d.burn = d := by unfold Dsk.burn; rw [h]
/-- A write that is refused, or that is done. -/
theorem Fw.write {d : Dsk} {n : Nat} {L : Nat → List UInt8} (h : Fw d n L) (i : Int) (l : List UInt8) :
    (d.ansW i = 1 ∧ d.doW i l = d) ∨ (∃ k : Nat, i = k ∧ k < n ∧ d.ansW i = 0 ∧ Fw (d.doW i l) n L ∧ (d.doW i l).order = (if k ∈ d.order then d.order else d.order ++ [k]) ∧ (d.doW i l).n = d.n) := by
  by_cases hr : d.ref i = 0
  · obtain ⟨h1, h2, h3⟩ := (ref_zero d i).1 hr
    obtain ⟨k, rfl⟩ := Int.eq_ofNat_of_zero_le h2
    have hk : k < d.n := by omega
    have hb : d.burnt = false := by simp [Dsk.burnt, h.fuse]
    obtain ⟨p1, p2, p3, p4⟩ := put_fields d k l
    have e : d.doW (k : Int) l = d.put k l := by
      unfold Dsk.doW; rw [if_pos hr, Int.toNat_natCast]; exact burn_none (by rw [p4, h.fuse])
    refine .inr ⟨k, rfl, by rw [← h.n]; exact hk, (if_pos hr).trans (by simp [Dsk.went, hb]), ?_, ?_, ?_⟩
    · rw [e]
      exact ⟨by rw [p1, h.n], fun j => by rw [p2, h.last], by rw [p3, h.dead], by rw [p4, h.fuse], put_good h.good hk l⟩
    · rw [e]
      have hm := h.good.mem k
      unfold Dsk.put
      rcases hW : d.wait k with _ | l'
      · rw [if_neg (by simp), if_neg (fun hh => (hm.1 hh).2 hW)]; rfl
      · rw [if_pos (by simp), if_pos (hm.2 ⟨hk, by rw [hW]; simp⟩)]; rfl
    · rw [e, p1]
  · left
    have hr1 : d.ref i = 1 := by
      unfold Dsk.ref refuse at hr ⊢
      rw [h.dead] at hr ⊢
      simp only [Bool.false_eq_true, if_false] at hr ⊢
      split at hr
      · exact absurd rfl hr
      · rename_i hh; rw [if_neg hh]
    exact ⟨(if_neg hr).trans hr1, if_neg hr⟩

/-- Behind the power came again. -/
theorem restart_ones {d : Dsk} (hg : Good d) (i : Nat) (hL : (d.last i).length = 4096) (hP : (d.page i).length = 4096) (hi : i < d.n) : (d.restart (ones d.order.length)).page i = d.page i := by
  rw [restart_page, restart_last _ _ hg]
  rcases hj : d.order.idxOf? i with _ | j
  · have hni : i ∉ d.order := by simpa using hj
    have : d.wait i = none := by
      rcases hW : d.wait i with _ | l
      · rfl
      · exact absurd ((hg.mem i).2 ⟨hi, by rw [hW]; simp⟩) hni
    show d.last i = (d.wait i).getD (d.last i)
    rw [this]; rfl
  · obtain ⟨hjl, _, _⟩ := List.idxOf?_eq_some_iff.1 hj
    show (if j < (ones d.order.length).length then _ else _) = _
    rw [ones_len, if_pos hjl, ones_at _ _ hjl, torn_all _ _ hL hP]

section
variable {w w' : World} {F : Nat → Prop} {v : Value} {n : Nat} {pg : Nat → List UInt8}
/-- Pages stay while a block that bears none of theirs is written. -/
theorem Pages.grown {row : Option Nat} (h : Pages w F v n pg) (hg : w.grownBy w' row) (hr : ∀ k, row = some k → ∀ cs t fr, w.heap[k]? = some (.cells cs t fr) → t = 3) : Pages w' F v n pg := by
  obtain ⟨gs, h1, h2, h3⟩ := h
  have hl := World.ownsRow.lt h1
  refine ⟨gs, owns_of_block h1 fun k e => hg.block k (hl k e).2 (fun e2 => ?_), h2, fun i hi => ⟨(h3 i hi).1, Own.of_block (h3 i hi).2 fun k e => hg.block k ?_ (fun e2 => ?_)⟩⟩
  · rcases h1.2 with ⟨rfl, _⟩ | ⟨g, cap, cur, rfl, _, hh, _⟩
    · cases e
    · cases e
      exact absurd (hr _ e2.symm _ _ _ hh) (by decide)
  · exact ((World.ownsRow.lt (h3 i hi).2) k e).2
  · obtain ⟨_, _, _, cur, hh, _⟩ := own_parts (h3 i hi).2
    cases e
    exact absurd (hr _ e2.symm _ _ _ hh) (by decide)
theorem ownI_type {base : Nat} {l : List Int} (h : OwnI w base v l) : ∀ k, v.ownBlock = some k → ∃ cs, w.heap[k]? = some (.cells cs 3 (0, 0)) := fun k e => by
  rcases h.2 with ⟨rfl, _⟩ | ⟨g, cap, cur, rfl, _, hh, _⟩
  · cases e
  · cases e; exact ⟨cur, hh⟩
theorem ownI_move {base : Nat} {l : List Int} (h : OwnI w base v l) (hk : ∀ k, v.ownBlock = some k → w'.heap[k]? = w.heap[k]?) : OwnI w' base v l := owns_of_block h hk
theorem mapIs_type {b m : Nat} {zv : Value} {V : Nat → Option Value} (h : MapIs w b m zv V) : ∃ es cl, w.heap[b]? = some (.map es cl) := by
  obtain ⟨D, zd, _, ⟨es, cl, hb, _⟩, _⟩ := h
  exact ⟨es, cl, hb⟩
end
theorem zero4 (W : World) : (zeroValue 4).run Try.prog W = .ok (.bool false) W := by kernel_rfl
end Go.Proofs.Ytpnnakjffcohoaa
