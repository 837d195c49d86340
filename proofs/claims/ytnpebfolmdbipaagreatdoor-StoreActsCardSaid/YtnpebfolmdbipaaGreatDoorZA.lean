import Derived.Test.YtnpebfolmdbipaaGreatDoorZ8
import Derived.Test.YtnpebfolmdbipaaGreatDoorZ7
import Derived.Test.YtnpebfolmdbipaaGreatDoorZ3
import Derived.Test.YtnpebfolmdbipaaGreatDoorZ6
import Derived.Deep.QuietTactic
import Derived.BigQuiet
import Derived.Test.YtnpebfolmdbipaaGreatDoorZ9
import Derived.Deep.RegionHeld3
namespace Go.Proofs.YtnpebfolmdbipaaGreatDoor.Sk
set_option maxRecDepth 8000
set_option linter.unusedVariables false
set_option linter.unusedSimpArgs false
open Go.RowKit Mem Go.ChangeMaps
open Dk (cod elem cod_inj elem_mk elem_inv key key_inj wf_key keyed3 MapIs Fr ptr hmf cell_alloc cell_alloc_new zero42 IsD Dsk Lay drewN_cell Kp ref_zero newD newY)
/-! ### The store, and the document's, as data -/
def cont (d : Dsk) (v : Vw) (p : Nat) : List UInt8 := match v.fresh p with
  | some l => l
  | none => Frm.held (d.page p)
structure TieV (k : Sta) (d : Dsk) (n : Nat) (v : Vw) (u : Rv) : Prop where
  root : u.root = v.now.root
  tk : ∀ p, p < n → u.tk p = v.now.has p
  ow : ∀ p, p < n → u.ow p = (v.fresh p).isSome
  he : ∀ p, p < n → u.he p = (k.has p && !v.now.has p)
  tx : ∀ p, p < n → v.now.has p = true → u.tx p = cont d v p
structure Tie (s : Sto) (d : Dsk) (r : Rst) (n : Nat) : Prop where
  q : Quiet s d
  sz : s.n = n
  now : TieV s.kept d n s.cur r.now
  was : TieV s.kept d n (Vw.base s.kept) r.was
  ml : s.marks.length = r.marks.length
  mr : ∀ (i : Nat) (x : Nat × Bool) (u : Rv), s.marks[i]? = some x → r.marks[i]? = some u → TieV s.kept d n (s.view x.1) u
section
variable {s : Sto} {d : Dsk} {r : Rst} {n : Nat}
theorem nomark {i : Nat} {x : Nat × Bool} (h : ([] : List (Nat × Bool))[i]? = some x) : False := by simp at h
theorem Tie.gone (h : Tie s d r n) : gone s d = false := h.q.gone
theorem Tie.fre (h : Tie s d r n) (p : Nat) (hp : p < n) : r.now.fre p = !s.used p := by
  unfold Rv.fre Sto.used
  rw [h.now.tk p hp, h.now.he p hp]
  cases s.cur.now.has p <;> cases s.kept.has p <;> rfl
theorem used_two (h : Tie s d r n) (p : Nat) (hp : p < 2) : s.used p = false := by
  cases e : s.used p
  · rfl
  · have := (used_in h.q.good p e).1; omega
theorem lfS_count (f g : Nat → Bool) (n : Nat) (hf : ∀ p, p < n → f p = !g p) : ∀ j, j ≤ n → (lfS f n j).1 + cntTo g n = j + cntTo g (n - j)
  | 0, _ => by show 0 + _ = 0 + _; rw [Nat.sub_zero]
  | j + 1, hj => by
    have ih := lfS_count f g n hf j (by omega)
    have e : n - j = (n - 1 - j) + 1 := by omega
    have e2 : n - (j + 1) = n - 1 - j := by omega
    have e3 : cntTo g (n - j) = cntTo g (n - 1 - j) + (g (n - 1 - j)).toNat := by rw [e]; rfl
    have hx := hf (n - 1 - j) (by omega)
    show (if f (n - 1 - j) then ((lfS f n j).1 + 1, n - 1 - j) else lfS f n j).1 + _ = _
    rw [e2, hx]
    cases hg : g (n - 1 - j)
    · rw [hg] at e3
      show (lfS f n j).1 + 1 + cntTo g n = _
      have e3 : cntTo g (n - j) = cntTo g (n - 1 - j) + 0 := e3
      omega
    · rw [hg] at e3
      show (lfS f n j).1 + cntTo g n = _
      have e3 : cntTo g (n - j) = cntTo g (n - 1 - j) + 1 := e3
      omega
theorem Tie.left (h : Tie s d r n) : (lfS r.now.fre n (n - 2)).1 = s.n - 2 - cntTo s.used s.n := by
  have h4 := h.q.good.n4
  have hc := lfS_count r.now.fre s.used n (fun p hp => h.fre p hp) (n - 2) (by omega)
  have h2 : cntTo s.used (n - (n - 2)) = 0 := by
    rw [show n - (n - 2) = 2 by have := h.sz; omega]
    show 0 + (s.used 0).toNat + (s.used 1).toNat = 0
    rw [used_two h 0 (by omega), used_two h 1 (by omega)]; rfl
  rw [h.sz]; omega
theorem Tie.has (h : Tie s d r n) (p : Int) : r.has n p = s.cur.now.hasI p := by
  unfold Rst.has Sta.hasI
  have hn := h.q.good.n5
  have hsz := h.sz
  by_cases h0 : 0 ≤ p
  · obtain ⟨q, rfl⟩ := Int.eq_ofNat_of_zero_le h0
    rw [Int.toNat_natCast]
    by_cases hq : q < n
    · rw [h.now.tk q hq, decide_eq_true (by omega : (q : Int) < n), decide_eq_true (by omega : (0 : Int) ≤ q ∧ (q : Int) < 4096)]
      by_cases h2 : 2 ≤ q
      · rw [decide_eq_true (by omega : (2 : Int) ≤ q)]; rfl
      · rw [decide_eq_false (by omega : ¬ (2 : Int) ≤ q)]
        cases e : s.cur.now.has q
        · rfl
        · have := (h.q.good.cur.has q e).1; omega
    · rw [decide_eq_false (by omega : ¬ (q : Int) < n)]
      cases e : s.cur.now.has q
      · simp
      · have := (h.q.good.cur.has q e).2; omega
  · rw [decide_eq_false (by omega : ¬ (2 : Int) ≤ p), decide_eq_false (by omega : ¬ ((0 : Int) ≤ p ∧ p < 4096))]; rfl
/-- Marks keep, where nothing of them turns. -/
theorem Tie.did (h : Tie s d r n) {u : Un} {v : Vw} {w : Rv} (hv : TieV s.kept d n v w) (hg : SGood (s.did u v)) : Tie (s.did u v) d { r with now := w } n :=
  { q := h.q.act ⟨rfl, rfl, rfl, rfl, rfl⟩ hg, sz := h.sz, now := hv, was := h.was, ml := h.ml
    mr := fun i x z hx hz => by
      have hm : s.marks ≠ [] := fun e => by
        have hx : s.marks[i]? = some x := hx
        rw [e] at hx; simp at hx
      have hx' : s.marks[i]? = some x := hx
      rw [did_view s u v hm, if_pos (h.q.good.mark i x hx')]
      exact h.mr i x z hx' hz }
theorem Tie.take (h : Tie s d r n) (l : List UInt8) : (numT s d l : Int) = (r.numT n l : Int) ∧ ansT s d l = r.ansT n l ∧ Tie (doT s d l) d (r.doT n l) n := by
  have hgood := doT_good (d := d) (l := l) h.q.good
  have h4 := h.q.good.n4
  have hsz := h.sz
  have hw := lfS_what r.now.fre n (n - 2) (by omega) (by omega)
  have hsp := spare_is s
  by_cases hl : 4011 < l.length
  · have e1 : ansT s d l = 2 := by unfold ansT; rw [h.gone, if_pos hl]; rfl
    have e2 : r.ansT n l = 2 := if_pos hl
    have e3 : doT s d l = s := by unfold doT; rw [e1]; rfl
    have e4 : r.doT n l = r := by unfold Rst.doT; rw [e2]; rfl
    refine ⟨?_, e1.trans e2.symm, by rw [e3, e4]; exact h⟩
    unfold numT Rst.numT; rw [e1, if_pos hl]; rfl
  · have hfr : ∀ p, p < n → s.free p = r.now.fre p := fun p hp => by
      rw [h.fre p hp]; unfold Sto.free Sto.used; cases s.cur.now.has p <;> cases s.kept.has p <;> rfl
    rcases hsp with ⟨p0, pall⟩ | ⟨p2, pn, pf, pmin⟩ <;> rcases hw with ⟨w1, w2, wall⟩ | ⟨w1, w2, w3, wf, wmin⟩
    · have e1 : ansT s d l = 3 := by unfold ansT; rw [h.gone, if_neg hl, if_pos p0]; rfl
      have e2 : r.ansT n l = 3 := by unfold Rst.ansT; rw [if_neg hl, if_pos w1]
      have e3 : doT s d l = s := by unfold doT; rw [e1]; rfl
      have e4 : r.doT n l = r := by unfold Rst.doT; rw [e2]; rfl
      refine ⟨?_, e1.trans e2.symm, by rw [e3, e4]; exact h⟩
      unfold numT Rst.numT; rw [e1, if_neg hl, if_pos w1]; rfl
    · have := pall (lfS r.now.fre n (n - 2)).2 (by omega) (by omega)
      rw [hfr _ w2, wf] at this; cases this
    · have := wall s.spare (by omega) (by omega)
      rw [← hfr _ (by omega), pf] at this; cases this
    · obtain ⟨p, hp⟩ : ∃ p, p = s.spare := ⟨_, rfl⟩
      have e5 : (lfS r.now.fre n (n - 2)).2 = p := by
        rw [hp]
        rcases Nat.lt_trichotomy (lfS r.now.fre n (n - 2)).2 s.spare with e | e | e
        · have := pmin _ (by omega) e
          rw [hfr _ w2, wf] at this; cases this
        · exact e
        · have := wmin s.spare (by omega) e
          rw [← hfr _ (by omega), pf] at this; cases this
      have e1 : ansT s d l = 0 := by unfold ansT; rw [h.gone, if_neg hl, if_neg (show ¬ s.spare = 0 by omega)]; rfl
      have e2 : r.ansT n l = 0 := by unfold Rst.ansT; rw [if_neg hl, if_neg (show ¬ (lfS r.now.fre n (n - 2)).1 = 0 by omega)]
      have e3 : doT s d l = s.take p l := by unfold doT; rw [e1, hp]; rfl
      have e4 : r.doT n l = r.take p l := by unfold Rst.doT; rw [e2, e5]; rfl
      refine ⟨?_, e1.trans e2.symm, ?_⟩
      · unfold numT Rst.numT; rw [e1, if_neg hl, if_neg (show ¬ (lfS r.now.fre n (n - 2)).1 = 0 by omega), e5, hp]; rfl
      · rw [e3] at hgood
        rw [e3, e4]
        rw [← hp] at pf
        have hno : s.cur.now.has p = false := by
          unfold Sto.free at pf
          cases e : s.cur.now.has p
          · rfl
          · rw [e] at pf; cases pf
        have hnk : s.kept.has p = false := by
          unfold Sto.free at pf
          cases e : s.kept.has p
          · rfl
          · rw [e] at pf; simp at pf
        refine h.did ⟨h.now.root, fun q hq => ?_, fun q hq => ?_, fun q hq => ?_, fun q hq hh => ?_⟩ hgood
        · show (if q = p then true else r.now.tk q) = flip s.cur.now.has p q
          by_cases e : q = p
          · rw [if_pos e, e, flip_same, hno]; rfl
          · rw [if_neg e, flip_other _ e]; exact h.now.tk q hq
        · show (if q = p then true else r.now.ow q) = (s.cur.fresh.put p (some l) q).isSome
          by_cases e : q = p
          · rw [if_pos e, e, put_same]; rfl
          · rw [if_neg e, put_other _ _ e]; exact h.now.ow q hq
        · show r.now.he q = (s.kept.has q && !flip s.cur.now.has p q)
          by_cases e : q = p
          · rw [h.now.he q hq, e, hnk]; rfl
          · rw [flip_other _ e]; exact h.now.he q hq
        · show (if q = p then l else r.now.tx q) = match s.cur.fresh.put p (some l) q with | some l => l | none => Frm.held (d.page q)
          by_cases e : q = p
          · rw [if_pos e, e, put_same]
          · rw [if_neg e, put_other _ _ e]
            exact h.now.tx q hq (by have hh : flip s.cur.now.has p q = true := hh; rwa [flip_other _ e] at hh)
theorem Tie.give (h : Tie s d r n) (m : Int) : ansG s d m = r.ansG n m ∧ Tie (doG s d m) d (r.doG n m) n := by
  have hgood := doG_good (d := d) (r := m) h.q.good
  have hb : s.badG m = r.badG n m := by unfold Sto.badG Rst.badG; rw [h.has m, h.now.root]
  have e1 : ansG s d m = if s.badG m then 1 else 0 := by unfold ansG; rw [h.gone]; rfl
  have e2 : doG s d m = if s.badG m then s else s.give m.toNat := by unfold doG; rw [h.gone]; rfl
  refine ⟨by rw [e1, hb]; rfl, ?_⟩
  rw [e2] at hgood ⊢
  unfold Rst.doG
  rw [← hb]
  cases hbb : s.badG m
  · rw [hbb] at hgood
    have hgood : SGood (s.give m.toNat) := hgood
    show Tie (s.give m.toNat) d (r.give m.toNat) n
    have hh : s.cur.now.hasI m = true := by
      unfold Sto.badG at hbb
      cases e : s.cur.now.hasI m
      · rw [e] at hbb; cases hbb
      · rfl
    have hp := (hasI_lt hh).2.2
    generalize m.toNat = p at hgood hp ⊢
    have hpn : p < n := by have := (h.q.good.cur.has p hp).2; have := h.sz; omega
    refine h.did ⟨h.now.root, fun q hq => ?_, fun q hq => ?_, fun q hq => ?_, fun q hq hh => ?_⟩ hgood
    · show (if q = p then false else r.now.tk q) = flip s.cur.now.has p q
      by_cases e : q = p
      · rw [if_pos e, e, flip_same, hp]; rfl
      · rw [if_neg e, flip_other _ e]; exact h.now.tk q hq
    · show (if q = p then false else r.now.ow q) = (s.cur.fresh.put p none q).isSome
      by_cases e : q = p
      · rw [if_pos e, e, put_same]; rfl
      · rw [if_neg e, put_other _ _ e]; exact h.now.ow q hq
    · show (if q = p then !r.now.ow p else r.now.he q) = (s.kept.has q && !flip s.cur.now.has p q)
      by_cases e : q = p
      · rw [if_pos e, e, flip_same, hp, h.now.ow p hpn]
        have hf := h.q.good.cur.fresh p
        rcases hx : s.cur.fresh p with _ | l
        · have : s.kept.has p = true := by
            cases e : s.kept.has p
            · exact absurd hx (hf.2 ⟨hp, e⟩)
            · rfl
          rw [this]; rfl
        · have := (hf.1 (by rw [hx]; simp)).2
          rw [this]; rfl
      · rw [if_neg e, flip_other _ e]; exact h.now.he q hq
    · have e : q ≠ p := fun e => by
        have hh : flip s.cur.now.has p q = true := hh
        rw [e, flip_same, hp] at hh; cases hh
      have hh : flip s.cur.now.has p q = true := hh
      rw [flip_other _ e] at hh
      show r.now.tx q = match s.cur.fresh.put p none q with | some l => l | none => Frm.held (d.page q)
      rw [put_other _ _ e]
      exact h.now.tx q hq hh
  · exact h
theorem Tie.setRoot (h : Tie s d r n) (m : Int) : ansR s d m = r.ansR n m ∧ Tie (doR s d m) d (r.doR n m) n := by
  have hgood := doR_good (d := d) (r := m) h.q.good
  have hb : s.badR m = r.badR n m := by unfold Sto.badR Rst.badR; rw [h.has m]
  have e1 : ansR s d m = if s.badR m then 1 else 0 := by unfold ansR; rw [h.gone]; rfl
  have e2 : doR s d m = if s.badR m then s else s.setRoot m.toNat := by unfold doR; rw [h.gone]; rfl
  refine ⟨by rw [e1, hb]; rfl, ?_⟩
  rw [e2] at hgood ⊢
  unfold Rst.doR
  rw [← hb]
  cases hbb : s.badR m
  · rw [hbb] at hgood
    exact h.did ⟨rfl, h.now.tk, h.now.ow, h.now.he, h.now.tx⟩ hgood
  · exact h
theorem Tie.mark (h : Tie s d r n) : ansM s d = (r.marks.length : Int) + 1 ∧ Tie (doM s d) d r.mark n := by
  have hgood := doM_good (d := d) h.q.good
  have e1 : ansM s d = (s.marks.length : Int) + 1 := by unfold ansM; rw [h.gone]; rfl
  have e2 : doM s d = s.mark := by unfold doM; rw [h.gone]; rfl
  rw [e2] at hgood ⊢
  refine ⟨by rw [e1, h.ml], { q := h.q.act ⟨rfl, rfl, rfl, rfl, rfl⟩ hgood, sz := h.sz, now := h.now, was := h.was, ml := ?_, mr := fun i x u hx hu => ?_ }⟩
  · show (s.marks ++ [(s.us.length, s.changed)]).length = (r.marks ++ [r.now]).length
    rw [List.length_append, List.length_append, h.ml]; rfl
  · have hx : (s.marks ++ [(s.us.length, s.changed)])[i]? = some x := hx
    have hu : (r.marks ++ [r.now])[i]? = some u := hu
    show TieV s.kept d n (s.view x.1) u
    by_cases hi : i < s.marks.length
    · rw [List.getElem?_append_left hi] at hx
      rw [List.getElem?_append_left (by rw [← h.ml]; exact hi)] at hu
      exact h.mr i x u hx hu
    · have hi2 : i = s.marks.length := by have := (List.getElem?_eq_some_iff.1 hx).1; simp at this; omega
      rw [hi2, List.getElem?_append_right (Nat.le_refl _), Nat.sub_self] at hx
      rw [hi2, h.ml, List.getElem?_append_right (Nat.le_refl _), Nat.sub_self] at hu
      simp at hx hu
      subst hx; subst hu
      show TieV s.kept d n (s.view s.us.length) r.now
      rw [view_len]; exact h.now
theorem Tie.back (h : Tie s d r n) (m : Int) : ansB s d m = r.ansB m ∧ Tie (doB s d m) d (r.doB m) n := by
  have hgood := doB_good (d := d) (m := m) h.q.good
  have hb : s.badB m = r.badB m := by unfold Sto.badB Rst.badB; rw [h.ml]
  have e1 : ansB s d m = if s.badB m then 1 else 0 := by unfold ansB; rw [h.gone]; rfl
  have e2 : doB s d m = if s.badB m then s else s.back (m.toNat - 1) := by unfold doB; rw [h.gone]; rfl
  refine ⟨by rw [e1, hb]; rfl, ?_⟩
  rw [e2] at hgood ⊢
  unfold Rst.doB
  rw [← hb]
  cases hbb : s.badB m
  · rw [hbb] at hgood
    have hgood : SGood (s.back (m.toNat - 1)) := hgood
    show Tie (s.back (m.toNat - 1)) d (r.back (m.toNat - 1)) n
    have hlt : m.toNat - 1 < s.marks.length := by simp [Sto.badB] at hbb; omega
    generalize m.toNat - 1 = q at hgood hlt ⊢
    obtain ⟨x, hx⟩ : ∃ x, s.marks[q]? = some x := ⟨_, List.getElem?_eq_getElem hlt⟩
    obtain ⟨u, hu⟩ : ∃ u, r.marks[q]? = some u := ⟨_, List.getElem?_eq_getElem (by rw [← h.ml]; exact hlt)⟩
    have e3 : s.back q = { s with cur := s.view x.1, us := s.us.take x.1, marks := s.marks.take (q + 1), changed := x.2 } := by unfold Sto.back; rw [hx]
    have e4 : r.back q = ⟨u, r.was, r.marks.take (q + 1)⟩ := by unfold Rst.back; rw [hu]
    have hk : (s.back q).kept = s.kept := by rw [e3]
    have hv := back_view h.q.good hx
    refine { q := h.q.act (back_same _ _) hgood, sz := by rw [e3]; exact h.sz, now := ?_, was := ?_, ml := ?_, mr := fun i z w hz hw => ?_ }
    · rw [hk, e3, e4]; exact h.mr q x u hx hu
    · rw [hk, e4]; exact h.was
    · rw [e3, e4]
      show (s.marks.take (q + 1)).length = (r.marks.take (q + 1)).length
      rw [List.length_take, List.length_take, h.ml]
    · rw [hk, hv]
      rw [e3] at hz
      rw [e4] at hw
      have hz : (s.marks.take (q + 1))[i]? = some z := hz
      have hw : (r.marks.take (q + 1))[i]? = some w := hw
      have hi : i < q + 1 := by have := (List.getElem?_eq_some_iff.1 hz).1; simp at this; omega
      rw [List.getElem?_take_of_lt hi] at hz hw
      rw [if_pos (h.q.good.mono i q z x (by omega) hz hx)]
      exact h.mr i z w hz hw
  · exact h
theorem rd_cont {s : Sto} {d : Dsk} (h : Quiet s d) (p : Nat) (hp : s.cur.now.has p = true) : rdOf s d p = some (cont d s.cur p) := by
  unfold rdOf cont
  rcases hf : s.cur.fresh p with _ | l
  · have hk : s.kept.has p = true := by
      rcases hk : s.kept.has p with _ | _
      · exact absurd hf ((h.good.cur.fresh p).2 ⟨hp, hk⟩)
      · rfl
    show (if Frm.whole (d.page p) p 2 then some (Frm.held (d.page p)) else none) = some (Frm.held (d.page p))
    rw [if_pos (h.whole p hk)]
  · rfl
theorem Tie.commit (h : Tie s d r n) (hs : s.stamp < 18446744073709551000) : ansC s d = 0 ∧ Tie (stoC s d) (diskC s d) (r.commit n) n ∧ (stoC s d).stamp ≤ s.stamp + 1 := by
  obtain ⟨e1, q2, ecur, ekept, eus, est, en, erd⟩ := h.q.commit hs
  have hmk : (stoC s d).marks = [] := by
    have e3 : comA s d = 0 := by have := e1; unfold ansC at this; rw [h.gone] at this; exact this
    unfold stoC comS
    rw [h.gone, e3]
    by_cases hc : s.changed = true
    · have : (writeD s d).1 = 0 := by unfold comA at e3; rwa [if_pos hc] at e3
      rw [if_pos hc, if_pos this]; rfl
    · rw [if_neg hc]; rfl
  have key : TieV (stoC s d).kept (diskC s d) n (Vw.base (stoC s d).kept) { r.now.clear n with so := false } := by
    rw [ekept]
    refine ⟨h.now.root, h.now.tk, fun p hp => if_pos hp, fun p hp => ?_, fun p hp hh => ?_⟩
    · show (if p < n then false else r.now.he p) = (s.cur.now.has p && !s.cur.now.has p)
      rw [if_pos hp]; cases s.cur.now.has p <;> rfl
    · have hh : s.cur.now.has p = true := hh
      have h2 := rd_cont q2 p (by rw [ecur]; exact hh)
      rw [erd p hh, rd_cont h.q p hh, ecur] at h2
      injection h2 with h2
      show r.now.tx p = cont (diskC s d) (Vw.base s.cur.now) p
      rw [← h2]; exact h.now.tx p hp hh
  exact ⟨e1, { q := q2, sz := en.trans h.sz, now := by rw [ecur, ← ekept]; exact key, was := key, ml := by rw [hmk]; rfl, mr := fun i x u hx hu => by rw [hmk] at hx; simp at hx }, est⟩
theorem Tie.abort (h : Tie s d r n) : Tie (s.begin s.kept) d r.abort n :=
  { q := h.q.act ⟨rfl, rfl, rfl, rfl, rfl⟩ (begin_good h.q.good _ h.q.good.kept), sz := h.sz, now := h.was, was := h.was, ml := rfl, mr := fun i x u hx hu => (nomark hx).elim }
theorem Tie.open (h : Tie s d r n) : Tie (opened d) d r.abort n ∧ (opened d).stamp = s.stamp := by
  obtain ⟨q2, ek, ec, es, eu⟩ := h.q.reopen (d' := d) (fun _ => rfl) h.q.liv h.q.wait rfl
  exact ⟨{ q := q2, sz := h.q.nn.symm.trans h.sz, now := by rw [ek, ec]; exact h.was, was := by rw [ek]; exact h.was, ml := rfl, mr := fun i x u hx hu => (nomark hx).elim }, es⟩
def Rst.new : Rst := ⟨⟨0, fun _ => [], fun _ => false, fun _ => false, fun _ => false, false⟩, ⟨0, fun _ => [], fun _ => false, fun _ => false, fun _ => false, false⟩, []⟩
theorem tie_new (n : Nat) (h4 : 4 ≤ n) (h5 : n ≤ 4096) : Tie (sto0 n) (newD n) Rst.new n :=
  have key : TieV (sto0 n).kept (newD n) n (Vw.base (sto0 n).kept) Rst.new.now := ⟨rfl, fun _ _ => rfl, fun _ _ => rfl, fun _ _ => rfl, fun p _ hh => by cases hh⟩
  { q := quiet_new n h4 h5, sz := rfl, now := key, was := key, ml := rfl, mr := fun i x u hx hu => (nomark hx).elim }
end
end Go.Proofs.YtnpebfolmdbipaaGreatDoor.Sk

namespace Go.Proofs.YtnpebfolmdbipaaGreatDoor.Sk
set_option maxRecDepth 8000
set_option linter.unusedVariables false
set_option linter.unusedSimpArgs false
open Go.RowKit Mem Go.ChangeMaps
open Dk (cod elem cod_inj elem_mk elem_inv key key_inj wf_key keyed3 MapIs Fr ptr hmf cell_alloc cell_alloc_new zero42 IsD Dsk Lay drewN_cell Kp ref_zero newD newY)
/-! ### Both stores side by side -/
structure Two (B : Nat) (V w : World) (sb db rb n : Nat) (y : SLay) (yd : Lay) (yr : RLay) (s : Sto) (d : Dsk) (r : Rst) (m : Nat) : Prop where
  bo : Bo B V w sb db y yd s d m
  rs : IsR w rb n yr r
  apart : ∀ k, both y yd k → ¬ yr.foot k
  low : ∀ k, yr.foot k → B ≤ k
  tie : Tie s d r n
section
variable {B : Nat} {V w w' : World} {sb db rb n : Nat} {y y' : SLay} {yd yd' : Lay} {yr yr' : RLay} {s s' : Sto} {d d' : Dsk} {r r' : Rst} {m m' : Nat}
theorem Two.keep (h : Two B V w sb db rb n y yd yr s d r m) (hb : Below w.heap.size w w') : Two B V w' sb db rb n y yd yr s d r m :=
  ⟨h.bo.keep hb, h.rs.below hb, h.apart, h.low, h.tie⟩
/-- A step of the store. -/
theorem Two.left (h : Two B V w sb db rb n y yd yr s d r m) (b : Bo B V w' sb db y' yd' s' d' m') (k : Kf (both y yd) w w' (both y' yd')) : IsR w' rb n yr r ∧ ∀ j, both y' yd' j → ¬ yr.foot j :=
  ⟨h.rs.of_blocks k.fr.size fun j hj => k.fr.block j (h.rs.foot j hj) fun e => h.apart j e hj, fun j hj e => h.apart j (k.foot j (h.rs.foot j e) hj) e⟩
/-- A step of the document's. -/
theorem Two.right (h : Two B V w sb db rb n y yd yr s d r m) (k : Kf yr.foot w w' yr'.foot) (is : IsR w' rb n yr' r') (hn : ∀ j, w.heap.size ≤ j → B ≤ j) : Bo B V w' sb db y yd s d m ∧ (∀ j, both y yd j → ¬ yr'.foot j) ∧ ∀ j, yr'.foot j → B ≤ j := by
  have hap : ∀ j, both y yd j → ¬ yr'.foot j := fun j hj e => h.apart j hj (k.foot j (h.bo.footlt j hj) e)
  have hfr : Fr yr.foot w w' := k.fr
  refine ⟨⟨⟨h.bo.st.is.fr hfr (fun j hj e => h.apart j (.inr hj) e), h.bo.st.good, h.bo.st.le, h.bo.st.bel.trans (hfr.below h.bo.base h.low), h.bo.st.low, h.bo.st.base⟩, h.bo.is.fr hfr (fun j hj e => h.apart j (.inl hj) e), h.bo.good, h.bo.apart, h.bo.low, h.bo.nn, h.bo.sm, h.bo.tabW, h.bo.posB⟩, hap, fun j hj => ?_⟩
  by_cases e : j < w.heap.size
  · exact h.low j (k.foot j e hj)
  · exact hn j (by omega)
set_option maxHeartbeats 4000000 in
theorem same_any (h : Two B V w sb db rb n y yd yr s d r m) : Calls Tryz.prog 28 #[pt sb, .pointer (some ⟨rb, 0, none⟩)] w fun e w' => e = .returned (.bool true) ∧ Below w.heap.size w w' := by
  have HT := Lib.hid h
  have hroot : (r.now.root : Int) = (s.cur.now.root : Int) := by rw [h.tie.now.root]
  have hn5 := h.rs.n2
  have LF := Lib.hid (rleft_any h.rs)
  have hlq : ∀ w2, Below w.heap.size w w2 → Calls Tryz.prog 41 #[pt sb] w2 fun e w' => e = .returned (.int .i64 ((lfS r.now.fre n (n - 2)).1 : Int)) ∧ Below w2.heap.size w2 w' := fun w2 hb => by
    have := (h.bo.keep hb).Left
    rw [h.tie.gone] at this
    rw [h.tie.left]
    exact this
  have LQ := Lib.hid hlq
  have hk0 : ∀ w2, Below w.heap.size w w2 → w2.cell? ⟨rb, 0, none⟩ = some (.int .i64 (s.cur.now.root : Int)) := fun w2 hb => by
    rw [← hroot]; exact (h.rs.below hb).c0
  have HK := Lib.hid hk0
  clear hlq hk0 h hroot
  go_enter Tryz.func28, Tryz.ntmps28
  go_wp2_with (go_at_call 53; refine LF.out.mono ?_; rintro e w1 ⟨rfl, hw1⟩; obtain rfl := hw1.symm)
  generalize (lfS r.now.fre n (n - 2)).1 = lc at *
  generalize (lfS r.now.fre n (n - 2)).2 = lp at *
  have HB0 := Lib.hid (Below.refl w.heap.size w)
  go_region_held3 (fun w' => w'.cell? ⟨rb, 0, none⟩ = some (.int .i64 (s.cur.now.root : Int)))
    (first | exact HK.out _ HB2.out | exact HK.out _ HB1.out | exact HK.out _ (Below.refl _ w).drew)
    (first
      | (go_at_call 41; refine (LQ.out _ HB1.out).mono ?_; rintro e w3 ⟨rfl, hb3⟩; have HB2 := Lib.hid (HB1.out.trans (hb3.mono HB1.out.size)); clear hb3)
      | (go_at_call 40; refine ((HT.out.bo.keep (Below.refl _ w).drew).Root HT.out.tie.gone).mono ?_; rintro e w2 ⟨rfl, hb2⟩; have HB1 := Lib.hid (show Below w.heap.size w w2 from (Below.refl _ w).drew.trans hb2); clear hb2))
  go_wp2
  go_loopw [7] (fun v wr => ∃ k : Nat, k ≤ n + 2 ∧ v = .int .i64 ((k : Int) - 1) ∧ Hid (Below w.heap.size w wr)) (fun v _ => n + 3 - (intOf v + 1).toNat)
  case atStart => exact ⟨0, Nat.zero_le _, rfl, HB2⟩
  case round =>
    clear HB0 HB1 HB2
    obtain ⟨k, hk, rfl, HB⟩ := hrel
    obtain ⟨i, hi⟩ : ∃ i : Int, i = (k : Int) - 1 := ⟨_, rfl⟩
    rw [← hi]
    have G := Lib.hid (HT.out.keep HB.out)
    have c2 := G.out.rs.c2
    by_cases hle : k ≤ n + 1
    · have hle' : i ≤ (n : Int) := by omega
      have hwi : wrap64 (i + 1) = ((k + 1 : Nat) : Int) - 1 := by unfold wrap64; omega
      have hhas := G.out.tie.has i
      by_cases hh : s.cur.now.hasI i = true
      · obtain ⟨h0, h4, hp⟩ := hasI_lt hh
        obtain ⟨q, rfl⟩ := Int.eq_ofNat_of_zero_le h0
        rw [Int.toNat_natCast] at hp
        have hqn : q < n := by have := (G.out.tie.q.good.cur.has q hp).2; have := G.out.tie.sz; omega
        obtain ⟨l, hl⟩ : ∃ l, l = cont d s.cur q := ⟨_, rfl⟩
        have hrd : rdOf s d q = some l := by rw [hl]; exact rd_cont G.out.tie.q q hp
        have htx : r.now.tx q = l := by rw [hl]; exact G.out.tie.now.tx q hqn hp
        have ha : ansRd s d (q : Int) = 0 := by
          unfold ansRd; rw [G.out.tie.gone, hh, Int.toNat_natCast, hrd]; rfl
        have RD := G.out.bo.Read (q : Int)
        rw [ha] at RD
        have RD2 := Lib.hid RD
        have HL := Lib.hid hrd
        have HX := Lib.hid htx
        have RH := Lib.hid (fun w2 (hb : Below wr.heap.size wr w2) => by have e := rhas_any (G.out.rs.below hb) (q : Int); rw [hhas, hh] at e; exact e)
        have hq' : (q : Int) < (n : Int) := by omega
        have HI := Lib.hid hi
        clear RD ha hrd htx hhas hh hp hi hl h0 h4
        go_wp2_with (first
          | (go_at_call 57; refine (RH.out _ B2.out).mono ?_; rintro e w3 ⟨rfl, hw3⟩; obtain rfl := hw3.symm)
          | (go_at_call 39; refine RD2.out.mono ?_; rintro e w2 ⟨v2, rfl, o2, _, b2⟩; obtain ⟨l2, e2, o2⟩ := o2 rfl; obtain rfl : l = l2 := Option.some.inj (HL.out.symm.trans (by rw [← e2, Int.toNat_natCast])); obtain ⟨A2, cc, rfl, hr2, _⟩ := o2.form; have K2 := Lib.hid (fun nn => run_str_rd (w2.drewN nn) (hr2.keep fun a _ => drewN_cell w2 nn a)); have B2 := Lib.hid b2; have g2 := (G.out.rs.below b2).c1; have g3 := (G.out.rs.below b2).tx hqn; rw [HX.out] at g3; clear b2 o2 hr2))
        have k2 := K2.out
        have q0 := G.out.rs.room 0 (by omega)
        have hn2 := G.out.rs.n2
        clear K2
        go_quiet (fail)
        go_wp2
        go_roundw
        case rel => exact ⟨k + 1, by omega, by have := HI.out; first | rfl | (congr 1; omega) | (congr 1), Lib.hid (below_drewN (HB.out.trans (B2.out.mono HB.out.size)) _)⟩
        case measure => have := HI.out; simp [intOf]; try omega
      · have hh' : s.cur.now.hasI i = false := by simpa using hh
        have ha : ansRd s d i = 1 := by unfold ansRd; rw [G.out.tie.gone, hh']; rfl
        have RD := G.out.bo.Read i
        rw [ha] at RD
        have RD2 := Lib.hid RD
        have RH := Lib.hid (fun w2 (hb : Below wr.heap.size wr w2) => by have e := rhas_any (G.out.rs.below hb) i; rw [hhas, hh'] at e; exact e)
        have HI := Lib.hid hi
        clear RD ha hhas hh hh' hi
        go_wp2_with (first
          | (go_at_call 57; refine (RH.out _ B2.out).mono ?_; rintro e w3 ⟨rfl, hw3⟩; obtain rfl := hw3.symm)
          | (go_at_call 39; refine RD2.out.mono ?_; rintro e w2 ⟨v2, rfl, _, z2, b2⟩; obtain rfl := z2 (by omega); have B2 := Lib.hid b2; clear b2))
        go_roundw
        case rel => exact ⟨k + 1, by omega, by have := HI.out; first | rfl | (congr 1; omega) | (congr 1), Lib.hid (HB.out.trans (B2.out.mono HB.out.size))⟩
        case measure => have := HI.out; simp [intOf]; try omega
    · obtain rfl : k = n + 2 := by omega
      have hle' : ¬ i ≤ (n : Int) := by omega
      clear hi
      go_wp2
      go_ret
      exact ⟨rfl, HB.out⟩
end
end Go.Proofs.YtnpebfolmdbipaaGreatDoor.Sk

namespace Go.Proofs.YtnpebfolmdbipaaGreatDoor.Sk
set_option maxRecDepth 8000
set_option linter.unusedVariables false
set_option linter.unusedSimpArgs false
open Go.RowKit Mem Go.ChangeMaps
open Dk (cod elem cod_inj elem_mk elem_inv key key_inj wf_key keyed3 MapIs Fr ptr hmf cell_alloc cell_alloc_new zero42 IsD Dsk Lay drewN_cell Kp ref_zero newD newY)
/-! ### An act's two steps -/
/-- The store has gone on to s', the document's not yet: from r to r'. -/
structure Half (B : Nat) (V w : World) (sb db rb n : Nat) (y : SLay) (yd : Lay) (yr : RLay) (s : Sto) (d : Dsk) (r r' : Rst) (m : Nat) : Prop where
  bo : Bo B V w sb db y yd s d m
  rs : IsR w rb n yr r
  apart : ∀ k, both y yd k → ¬ yr.foot k
  low : ∀ k, yr.foot k → B ≤ k
  tie : Tie s d r' n
/-- The act, in a variable. -/
structure AcA (w : World) (y : SLay) (yd : Lay) (yr : RLay) (ga : Nat) (a : ActD) : Prop where
  cs : w.heap[ga]? = some (.cells #[.int .u8 (a.dw : Int), .int .i64 a.p, .string (str a.s), .int .u16 (a.n : Int)] 32 (0, 0))
  n1 : ¬ both y yd ga
  n2 : ¬ yr.foot ga
section
variable {B : Nat} {V w w' : World} {sb sb' db rb n ga : Nat} {y y' : SLay} {yd yd' : Lay} {yr yr' : RLay} {s s' : Sto} {d d' : Dsk} {r r' : Rst} {m m' : Nat} {a : ActD}
theorem AcA.lt (h : AcA w y yd yr ga a) : ga < w.heap.size := (Array.getElem?_eq_some_iff.1 h.cs).1
theorem AcA.c0 (h : AcA w y yd yr ga a) : w.cell? ⟨ga, 0, none⟩ = some (.int .u8 (a.dw : Int)) := by simp [World.cell?, h.cs]
theorem AcA.c1 (h : AcA w y yd yr ga a) : w.cell? ⟨ga, 1, none⟩ = some (.int .i64 a.p) := by simp [World.cell?, h.cs]
theorem AcA.c2 (h : AcA w y yd yr ga a) : w.cell? ⟨ga, 2, none⟩ = some (.string (str a.s)) := by simp [World.cell?, h.cs]
theorem AcA.c3 (h : AcA w y yd yr ga a) : w.cell? ⟨ga, 3, none⟩ = some (.int .u16 (a.n : Int)) := by simp [World.cell?, h.cs]
theorem AcA.below (h : AcA w y yd yr ga a) (hb : Below w.heap.size w w') : AcA w' y yd yr ga a := ⟨(hb.block _ h.lt).trans h.cs, h.n1, h.n2⟩
theorem AcA.kf (h : AcA w y yd yr ga a) (k : Kf (both y yd) w w' (both y' yd')) : AcA w' y' yd' yr ga a :=
  ⟨(k.free h.lt h.n1).2.trans h.cs, (k.free h.lt h.n1).1, h.n2⟩
theorem Half.footlt (h : Half B V w sb db rb n y yd yr s d r r' m) (k : Nat) (hk : both y yd k) : k < w.heap.size := h.bo.footlt k hk
theorem Two.half (h : Two B V w sb db rb n y yd yr s d r m) (b : Bo B V w' sb' db y' yd' s' d' m') (k : Kf (both y yd) w w' (both y' yd')) (t : Tie s' d' r' n) : Half B V w' sb' db rb n y' yd' yr s' d' r r' m' :=
  ⟨b, h.rs.of_blocks k.fr.size fun j hj => k.fr.block j (h.rs.foot j hj) fun e => h.apart j e hj, fun j hj e => h.apart j (k.foot j (h.rs.foot j e) hj) e, h.low, t⟩
theorem Half.keep (h : Half B V w sb db rb n y yd yr s d r r' m) (hb : Below w.heap.size w w') : Half B V w' sb db rb n y yd yr s d r r' m :=
  ⟨h.bo.keep hb, h.rs.below hb, h.apart, h.low, h.tie⟩
theorem Half.right (h : Half B V w sb db rb n y yd yr s d r r' m) (k : Kf yr.foot w w' yr'.foot) (is : IsR w' rb n yr' r') : Two B V w' sb db rb n y yd yr' s d r' m := by
  have hfr : Fr yr.foot w w' := k.fr
  refine ⟨⟨⟨h.bo.st.is.fr hfr (fun j hj e => h.apart j (.inr hj) e), h.bo.st.good, h.bo.st.le, h.bo.st.bel.trans (hfr.below h.bo.base h.low), h.bo.st.low, h.bo.st.base⟩, h.bo.is.fr hfr (fun j hj e => h.apart j (.inl hj) e), h.bo.good, h.bo.apart, h.bo.low, h.bo.nn, h.bo.sm, h.bo.tabW, h.bo.posB⟩, is, fun j hj e => h.apart j hj (k.foot j (h.bo.footlt j hj) e), fun j hj => ?_, h.tie⟩
  by_cases e : j < w.heap.size
  · exact h.low j (k.foot j e hj)
  · have := h.bo.base; omega
/-- Between two acts. -/
structure AI (B : Nat) (V w : World) (db rb n k sb : Nat) (y : SLay) (yd : Lay) (yr : RLay) (s : Sto) (d : Dsk) (r : Rst) : Prop where
  two : Two B V w sb db rb n y yd yr s d r (20000 * k)
  us : s.us.length ≤ k
  st : s.stamp ≤ k
  ms : r.marks.length ≤ k
theorem AI.next {k : Nat} (h : AI B V w db rb n k sb y yd yr s d r) (t : Two B V w' sb' db rb n y' yd' yr' s' d' r' m) (hm : m ≤ 20000 * k + 10200) (hu : s'.us.length ≤ s.us.length + 1) (hs : s'.stamp ≤ s.stamp + 1) (hr : r'.marks.length ≤ r.marks.length + 1) (hk : k ≤ 60) : AI B V w' db rb n (k + 1) sb' y' yd' yr' s' d' r' :=
  ⟨⟨t.bo.mono (by omega), t.rs, t.apart, t.low, t.tie⟩, by have := h.us; omega, by have := h.st; omega, by have := h.ms; omega⟩
theorem doT_marks (r : Rst) (n : Nat) (l : List UInt8) : (r.doT n l).marks = r.marks := by unfold Rst.doT; split <;> rfl
theorem doG_marks (r : Rst) (n : Nat) (m : Int) : (r.doG n m).marks = r.marks := by unfold Rst.doG; split <;> rfl
theorem doR_marks (r : Rst) (n : Nat) (m : Int) : (r.doR n m).marks = r.marks := by unfold Rst.doR; split <;> rfl
theorem doB_marks (r : Rst) (m : Int) : (r.doB m).marks.length ≤ r.marks.length := by
  unfold Rst.doB Rst.back
  split
  · exact Nat.le_refl _
  · split
    · show (r.marks.take _).length ≤ _; rw [List.length_take]; omega
    · exact Nat.le_refl _
theorem doT_us (s : Sto) (d : Dsk) (l : List UInt8) : (doT s d l).us.length ≤ s.us.length + 1 := by
  unfold doT; split
  · exact did_us _ _ _
  · omega
theorem doG_us (s : Sto) (d : Dsk) (m : Int) : (doG s d m).us.length ≤ s.us.length + 1 := by
  unfold doG; repeat' split
  all_goals first | exact did_us _ _ _ | omega
theorem doR_us (s : Sto) (d : Dsk) (m : Int) : (doR s d m).us.length ≤ s.us.length + 1 := by
  unfold doR; repeat' split
  all_goals first | exact did_us _ _ _ | omega
theorem doM_us (s : Sto) (d : Dsk) : (doM s d).us.length ≤ s.us.length + 1 := by unfold doM Sto.mark; split <;> simp
theorem doB_us (s : Sto) (d : Dsk) (m : Int) : (doB s d m).us.length ≤ s.us.length + 1 := by
  unfold doB Sto.back; repeat' split
  all_goals first | omega | (simp only [List.length_take]; omega)
/-! What each call of the store answers, as the document's. -/
theorem Two.Take (h : Two B V w sb db rb n y yd yr s d r m) (A : Option Addr) (c nn : Nat) (l : List UInt8) (hr : Rd w w.heap.size A c l) (hl : l.length = nn) (hm : m < 90000000) :
    Calls Tryz.prog 12 #[pt sb, .slice A nn c] w fun e w' => e = .returned (.tuple #[.int .i64 (r.numT n l : Int), .int .i64 (r.ansT n l)]) ∧ ∃ y', Half B V w' sb db rb n y' yd yr (doT s d l) d r (r.doT n l) (m + 2) ∧ Kf (both y yd) w w' (both y' yd) := by
  have t := h.tie.take l
  refine (h.bo.Take A c nn l hr hl hm).mono ?_
  rintro e w' ⟨rfl, y1, b1, k1⟩
  exact ⟨by rw [t.1, t.2.1], y1, h.half b1 k1 t.2.2, k1⟩
theorem Two.Give (h : Two B V w sb db rb n y yd yr s d r m) (p : Int) (hm : m < 90000000) :
    Calls Tryz.prog 15 #[pt sb, .int .i64 p] w fun e w' => e = .returned (.int .i64 (r.ansG n p)) ∧ ∃ y', Half B V w' sb db rb n y' yd yr (doG s d p) d r (r.doG n p) (m + 2) ∧ Kf (both y yd) w w' (both y' yd) := by
  have t := h.tie.give p
  refine (h.bo.Give p hm).mono ?_
  rintro e w' ⟨rfl, y1, b1, k1⟩
  exact ⟨by rw [t.1], y1, h.half b1 k1 t.2, k1⟩
theorem Two.SetRoot (h : Two B V w sb db rb n y yd yr s d r m) (p : Int) (hm : m < 90000000) :
    Calls Tryz.prog 17 #[pt sb, .int .i64 p] w fun e w' => e = .returned (.int .i64 (r.ansR n p)) ∧ ∃ y', Half B V w' sb db rb n y' yd yr (doR s d p) d r (r.doR n p) (m + 2) ∧ Kf (both y yd) w w' (both y' yd) := by
  have t := h.tie.setRoot p
  refine (h.bo.SetRoot p hm).mono ?_
  rintro e w' ⟨rfl, y1, b1, k1⟩
  exact ⟨by rw [t.1], y1, h.half b1 k1 t.2, k1⟩
theorem Two.Mark (h : Two B V w sb db rb n y yd yr s d r m) (hm : m < 90000000) :
    Calls Tryz.prog 19 #[pt sb] w fun e w' => e = .returned (.int .i64 ((r.marks.length : Int) + 1)) ∧ ∃ y', Half B V w' sb db rb n y' yd yr (doM s d) d r r.mark (m + 1) ∧ Kf (both y yd) w w' (both y' yd) := by
  have t := h.tie.mark
  refine (h.bo.Mark hm).mono ?_
  rintro e w' ⟨rfl, y1, b1, k1⟩
  exact ⟨by rw [t.1], y1, h.half b1 k1 t.2, k1⟩
theorem Two.Back (h : Two B V w sb db rb n y yd yr s d r m) (p : Int) (hm : m + s.us.length < 90000000) :
    Calls Tryz.prog 21 #[pt sb, .int .i64 p] w fun e w' => e = .returned (.int .i64 (r.ansB p)) ∧ ∃ y', Half B V w' sb db rb n y' yd yr (doB s d p) d r (r.doB p) (m + s.us.length) ∧ Kf (both y yd) w w' (both y' yd) := by
  have t := h.tie.back p
  refine (h.bo.Back p hm).mono ?_
  rintro e w' ⟨rfl, y1, b1, k1⟩
  exact ⟨by rw [t.1], y1, h.half b1 k1 t.2, k1⟩
theorem Two.Commit (h : Two B V w sb db rb n y yd yr s d r m) (hs : s.stamp < 18446744073709551000) (hm : m < 900000000) :
    Calls Tryz.prog 23 #[pt sb] w fun e w' => e = .returned (.int .i64 0) ∧ ∃ y' yd', Half B V w' sb db rb n y' yd' yr (stoC s d) (diskC s d) r (r.commit n) (m + 10000) ∧ Kf (both y yd) w w' (both y' yd') := by
  have t := h.tie.commit hs
  refine (Commit_any h.bo hm).mono ?_
  rintro e w' ⟨rfl, y1, yd1, b1, k1⟩
  exact ⟨by rw [t.1], y1, yd1, h.half b1 k1 t.2.1, k1⟩
theorem Two.Abort (h : Two B V w sb db rb n y yd yr s d r m) :
    Calls Tryz.prog 25 #[pt sb] w fun e w' => e = .returned (.tuple #[]) ∧ ∃ y', Half B V w' sb db rb n y' yd yr (s.begin s.kept) d r r.abort m ∧ Kf (both y yd) w w' (both y' yd) := by
  refine h.bo.Abort.mono ?_
  rintro e w' ⟨rfl, y1, b1, k1⟩
  exact ⟨rfl, y1, h.half b1 k1 h.tie.abort, k1⟩
theorem Two.Open (h : Two B V w sb db rb n y yd yr s d r m) (hs : s.stamp < 18446744073709551000) :
    Calls Tryz.prog 27 #[ptr db] w fun e w' => ∃ sb' y', e = .returned (.tuple #[pt sb', .int .i64 0]) ∧ Half B V w' sb' db rb n y' yd yr (opened d) d r r.abort m ∧ Kf (both y yd) w w' (both y' yd) ∧ (opened d).us.length ≤ 0 ∧ (opened d).stamp = s.stamp := by
  have t := h.tie.open
  have hn := h.tie.q.nn
  have h4 := h.tie.q.good.n4
  have h5 := h.tie.q.good.n5
  refine (open_any h.bo.st h.bo.tabW h.bo.posB h.tie.q.liv.dead (by omega) (by omega) (by have e : (lkTo d d.n 2).stamp = s.stamp := h.tie.q.lkS; omega)).mono ?_
  rintro e w' ⟨sb', y1, rfl, b1, k1⟩
  have k2 : Kf (both y yd) w w' (both y1 yd) := ⟨k1.fr.mono fun j _ e => .inr e, fun j hj e => .inr (k1.foot j hj e)⟩
  exact ⟨sb', y1, rfl, h.half b1 k2 t.1, k2, Nat.le_refl _, t.2⟩
end
end Go.Proofs.YtnpebfolmdbipaaGreatDoor.Sk

namespace Go.Proofs.YtnpebfolmdbipaaGreatDoor.Sk
set_option maxRecDepth 8000
set_option linter.unusedVariables false
set_option linter.unusedSimpArgs false
open Go.RowKit Mem Go.ChangeMaps
open Dk (cod elem cod_inj elem_mk elem_inv key key_inj wf_key keyed3 MapIs Fr ptr hmf cell_alloc cell_alloc_new zero42 IsD Dsk Lay drewN_cell Kp ref_zero newD newY RdI)
theorem u9 (dw : Nat) (k : Nat) (h : dw % 9 = k) : (dw : Int) % 9 = (k : Int) := by omega
set_option maxHeartbeats 16000000 in
theorem storeActs_walk (a0 : Int) (A1 : Option Addr) (len1 cap1 : Nat) (g1 : Nat → Nat → Value) (W : World) (hw : Tab W)
    (wf0 : (Lit.int .u8 a0).wf = true) {fs1 : Array Field} (hu1 : Tryz.prog.underlying 32 = some (.struct fs1)) (w1 : Structs Tryz.prog W W.heap.size fs1 A1 len1 cap1 g1) (z1 : StrSized Tryz.prog W fs1 A1 len1) :
    Calls Tryz.prog 3 #[.int .u8 a0, .slice A1 len1 cap1] W fun e w' => e = .returned (.bool true) ∧ Below W.heap.size W w' := by
  obtain ⟨f1, ha1⟩ := acts_of hu1 w1 z1
  have hb := bounds_u8 wf0
  obtain ⟨pg, rfl⟩ := Int.eq_ofNat_of_zero_le hb.1
  have hpg : pg < 256 := by omega
  obtain ⟨n, hn, hn4, hn20⟩ := dsk_n17 pg
  have G1 := Lib.hid (fun W' (h : Below W.heap.size W W') => great_one A1 len1 cap1 f1 W' _ (ha1.below h))
  have HA1 := Lib.hid ha1
  have HT := Lib.hid hw
  have hc1 : (len1 : Int) ≤ 9223372036854775807 := by have := ha1.1; have := ha1.2.1; unfold maxLen at this; omega
  have hposW := hw.1
  clear w1 z1 wf0 hu1 ha1 hw
  clear hb
  by_cases hg1 : 0 < gr len1 f1
  · go_enter Tryz.func3, Tryz.ntmps3
    go_wp2_with (first | (go_at_call 9; refine (G1.out _ (Below.refl _ _)).mono ?_; rintro e w1 ⟨rfl, n1, rfl⟩))
    go_ret
    exact ⟨rfl, below_drewN (Below.refl _ W) n1⟩
  obtain ⟨hl1, ht1⟩ := gr_ok hg1
  have T1 := Lib.hid ht1
  clear ht1
  go_enter Tryz.func3, Tryz.ntmps3
  go_wp2_with (first
    | (go_at_call 10; refine (made_any n _ (HT.out.below (B := W.heap.size) (below_drewN (Below.refl _ W) n1) hposW) hn4 (by omega)).mono ?_; rintro e w3 ⟨sb, db, y0, yd, rfl, bo0⟩; have B0 := Lib.hid bo0; clear bo0)
    | (go_at_call 9; refine (G1.out _ (Below.refl _ _)).mono ?_; rintro e w1 ⟨rfl, n1, rfl⟩))
  obtain ⟨V, hV⟩ : ∃ V, V = W.drewN n1 := ⟨_, rfl⟩
  have hVs : V.heap.size = W.heap.size := by rw [hV, show (W.drewN n1).heap = W.heap from (World.drewN_alike W n1).1]
  have hVb : Below W.heap.size W V := by rw [hV]; exact below_drewN (Below.refl _ W) n1
  have B1 := Lib.hid (show Bo W.heap.size V w3 sb db y0 yd (sto0 n) (newD n) 0 from by have := B0.out; rw [← hV, hVs] at this; exact this)
  have HVB := Lib.hid hVb
  clear B0 hV hVb hVs
  have TI := Lib.hid (tie_new n hn4 (by omega))
  have I0 := Lib.hid (show (sto0 n).us.length ≤ 0 ∧ (sto0 n).stamp ≤ 0 ∧ Rst.new.marks.length ≤ 0 from ⟨Nat.le_refl _, Nat.le_refl _, Nat.le_refl _⟩)
  obtain ⟨s0, hs0⟩ : ∃ s0, s0 = sto0 n := ⟨_, rfl⟩
  obtain ⟨d0, hd0⟩ : ∃ d0, d0 = newD n := ⟨_, rfl⟩
  rw [← hs0, ← hd0] at B1 TI
  rw [← hs0] at I0
  clear hs0 hd0 hg1 hn hpg
  refine (rnew_any n w3 hn4 (by omega)).mono ?_
  rintro e w5 ⟨rb, yr, rfl, is0, bl0, lo0⟩
  have J0 := Lib.hid (show AI W.heap.size V w5 db rb n 0 sb y0 yd yr s0 d0 Rst.new from
    ⟨⟨B1.out.keep bl0, is0, fun j hj e => by have := B1.out.footlt j hj; have := lo0 j e; omega, fun j hj => Nat.le_trans B1.out.base (lo0 j hj), TI.out⟩, I0.out.1, I0.out.2.1, I0.out.2.2⟩)
  clear is0 bl0 lo0 B1 TI I0
  go_wp2_with (fail)
  go_loopw [7, 9] (fun sv iv wr => ∃ (k sb : Nat) (y : SLay) (yd : Lay) (yr : RLay) (s : Sto) (d : Dsk) (r : Rst), k ≤ len1 ∧ sv = pt sb ∧ iv = .int .i64 k ∧ Hid (AI W.heap.size V wr db rb n k sb y yd yr s d r)) (fun _ iv _ => len1 - (intOf iv).toNat)
  case atStart => exact ⟨0, sb, y0, yd, yr, s0, d0, Rst.new, Nat.zero_le _, rfl, rfl, J0⟩
  case round =>
    clear J0
    obtain ⟨k, sb, y, yd, yr, s, d, r, hk, rfl, rfl, HA⟩ := hrel
    have hbw : Below W.heap.size W wr := HVB.out.trans HA.out.two.bo.st.bel
    have HBW := Lib.hid hbw
    clear hbw
    by_cases hlt : k < len1
    · obtain ⟨bA, oA, rfl, hblt, hc⟩ := (HA1.out.below HBW.out).2.2 (by omega)
      have q0 := (hc k hlt).c0
      have q1 := (hc k hlt).c1
      have q2 := (hc k hlt).c2
      have q3 := (hc k hlt).c3
      have hlt' : (k : Int) < (len1 : Int) := by omega
      have HD := Lib.hid (And.intro (hc k hlt).d (And.intro (hc k hlt).nn (T1.out k hlt)))
      obtain ⟨X, hX⟩ : ∃ X, X = wr.alloc (.cells #[.int .u8 ((f1 k).dw : Int), .int .i64 (f1 k).p, .string (str (f1 k).s), .int .u16 ((f1 k).n : Int)] 32) := ⟨_, rfl⟩
      have hbx : Below wr.heap.size wr X := hX ▸ (Below.refl _ wr).alloc (Nat.le_refl _) _
      have T1' := Lib.hid (HA.out.two.keep hbx)
      have AC := Lib.hid (show AcA X y yd yr wr.heap.size (f1 k) from ⟨hX ▸ heap_alloc_new wr _, fun e => by have := HA.out.two.bo.footlt _ e; omega, fun e => by have := HA.out.two.rs.foot _ e; omega⟩)
      have HX := Lib.hid hX
      clear hc hbx hX
      obtain ⟨a, ha⟩ : ∃ a, a = f1 k := ⟨_, rfl⟩
      rw [← ha] at q0 q1 q2 q3 HD AC HX
      clear ha
      obtain ⟨dw, p, sx, nn⟩ := a
      have hr9 : dw % 9 < 9 := Nat.mod_lt _ (by omega)
      obtain ⟨ρ, hρ⟩ : ∃ ρ, ρ = dw % 9 := ⟨_, rfl⟩
      rw [← hρ] at hr9
      dsimp only at q0 q1 q2 q3 HX
      rcases (by omega : ρ = 0 ∨ ρ = 1 ∨ ρ = 2 ∨ ρ = 3 ∨ ρ = 4 ∨ ρ = 5 ∨ ρ = 6 ∨ ρ = 7 ∨ ρ = 8) with rfl | rfl | rfl | rfl | rfl | rfl | rfl | rfl | rfl
      · have h9 : (dw : Int) % 9 = 0 := u9 dw 0 hρ.symm
        clear hr9 hρ
        go_wp2_with (first
          | (go_at_call 29; refine (sdead_any (T3.out.keep B4.out).bo.is (T3.out.keep B4.out).bo.st.is).mono ?_; rw [(T3.out).tie.gone]; rintro e w9 ⟨rfl, hw9⟩; obtain rfl := hw9.symm)
          | (go_at_call 28; refine (same_any T3.out).mono ?_; rintro e w4 ⟨rfl, b4⟩; have B4 := Lib.hid b4; clear b4)
          | (go_at_call 14; refine (rtake_any H3.out.rs (textTo sx (nn % 300)) (by rw [length_textTo]; exact HD.out.2.2)).mono ?_; rintro e w3 ⟨rfl, i3, k3⟩; have T3 := Lib.hid (H3.out.right k3 i3); clear i3 k3)
          | (go_at_call 13; refine (text_any dw nn p sx w2 HD.out.2.1 HD.out.2.2).mono ?_; rintro e wt ⟨vt, rfl, ot, bt⟩; obtain ⟨A5, c5, rfl, r5, _⟩ := ot.form; have cv : (convert 36 9 (.slice A5 (textTo sx (nn % 300)).length c5)).run Tryz.prog wt = .ok (.string (str (textTo sx (nn % 300)))) wt := run_str_rd wt r5; have H3 := Lib.hid (H2.out.keep bt); clear ot bt r5)
          | (go_at_call 12; refine (((T1'.out.keep H1.out).Take A1' c1' _ _ R1.out rfl (by have := HA.out.us; omega))).mono ?_; rintro e w2 ⟨rfl, y2, h2, k2⟩; have H2 := Lib.hid h2; have ac := (AC.out.below H1.out).kf k2; have a0 := ac.c0; have a1 := ac.c1; have a2 := ac.c2; have a3 := ac.c3; dsimp only at a0 a1 a2 a3; clear h2 k2 ac)
          | (go_at_call 13; rw [← HX.out]; refine (text_any dw nn p sx X HD.out.2.1 HD.out.2.2).mono ?_; rintro e w1 ⟨v1, rfl, o1, b1⟩; obtain ⟨A1', c1', rfl, r1, _⟩ := o1.form; have H1 := Lib.hid b1; have R1 := Lib.hid r1; clear o1 b1 r1))
        go_roundw
        case rel => exact ⟨k + 1, sb, y2, yd, yr, doT s d (textTo sx (nn % 300)), d, r.doT n (textTo sx (nn % 300)), by omega, rfl, by go_num, Lib.hid (HA.out.next (T3.out.keep B4.out) (by omega) (by exact doT_us _ _ _) (by rw [(doT_same _ _ _).stamp]; omega) (by rw [doT_marks]; omega) (by omega))⟩
        case measure => simp [intOf]; omega
      · have h9 : (dw : Int) % 9 = 1 := u9 dw 1 hρ.symm
        clear hr9 hρ
        go_wp2_with (fail)
        rw [← HX.out]
        obtain ⟨ga, hga⟩ : ∃ ga, ga = wr.heap.size := ⟨_, rfl⟩
        rw [← hga] at AC ⊢
        clear hga
        have AD := Lib.hid (AC.out.below (Below.refl _ X).drew)
        have TD := Lib.hid (T1'.out.keep (Below.refl _ X).drew)
        go_region_held3 (fun w' => w'.cell? ⟨ga, 1, none⟩ = some (.int .i64 p))
          (first | exact K3.out | exact K2.out | exact AD.out.c1)
          (first
            | (go_at_call 16; refine (rgive_any H2.out.rs p).mono ?_; rintro e w3 ⟨rfl, i3, k3⟩; have T3 := Lib.hid (H2.out.right k3 i3); have K3 := Lib.hid (show w3.cell? ⟨ga, 1, none⟩ = some (.int .i64 p) from (World.cell?_of_block (k3.free K2A.out.lt K2A.out.n2).2).trans K2A.out.c1); clear i3 k3)
            | (go_at_call 15; refine (TD.out.Give p (by have := HA.out.us; omega)).mono ?_; rintro e w2 ⟨rfl, y2, h2, k2⟩; have H2 := Lib.hid h2; have K2A := Lib.hid (AD.out.kf k2); have K2 := Lib.hid (show w2.cell? ⟨ga, 1, none⟩ = some (.int .i64 p) from K2A.out.c1); clear h2 k2))
        go_wp2_with (first
          | (go_at_call 29; refine (sdead_any (T3.out.keep B4.out).bo.is (T3.out.keep B4.out).bo.st.is).mono ?_; rw [(T3.out).tie.gone]; rintro e w9 ⟨rfl, hw9⟩; obtain rfl := hw9.symm)
          | (go_at_call 28; refine (same_any T3.out).mono ?_; rintro e w4 ⟨rfl, b4⟩; have B4 := Lib.hid b4; clear b4))
        go_roundw
        case rel => exact ⟨k + 1, sb, y2, yd, yr, doG s d p, d, r.doG n p, by omega, rfl, by go_num, Lib.hid (HA.out.next (T3.out.keep B4.out) (by omega) (by exact doG_us _ _ _) (by rw [(doG_same _ _ _).stamp]; omega) (by rw [doG_marks]; omega) (by omega))⟩
        case measure => simp [intOf]; omega
      · have h9 : (dw : Int) % 9 = 2 := u9 dw 2 hρ.symm
        clear hr9 hρ
        go_wp2_with (fail)
        rw [← HX.out]
        obtain ⟨ga, hga⟩ : ∃ ga, ga = wr.heap.size := ⟨_, rfl⟩
        rw [← hga] at AC ⊢
        clear hga
        have AD := Lib.hid (AC.out.below (Below.refl _ X).drew)
        have TD := Lib.hid (T1'.out.keep (Below.refl _ X).drew)
        go_region_held3 (fun w' => w'.cell? ⟨ga, 1, none⟩ = some (.int .i64 p))
          (first | exact K3.out | exact K2.out | exact AD.out.c1)
          (first
            | (go_at_call 18; refine (rroot_any H2.out.rs p).mono ?_; rintro e w3 ⟨rfl, i3, k3⟩; have T3 := Lib.hid (H2.out.right k3 i3); have K3 := Lib.hid (show w3.cell? ⟨ga, 1, none⟩ = some (.int .i64 p) from (World.cell?_of_block (k3.free K2A.out.lt K2A.out.n2).2).trans K2A.out.c1); clear i3 k3)
            | (go_at_call 17; refine (TD.out.SetRoot p (by have := HA.out.us; omega)).mono ?_; rintro e w2 ⟨rfl, y2, h2, k2⟩; have H2 := Lib.hid h2; have K2A := Lib.hid (AD.out.kf k2); have K2 := Lib.hid (show w2.cell? ⟨ga, 1, none⟩ = some (.int .i64 p) from K2A.out.c1); clear h2 k2))
        go_wp2_with (first
          | (go_at_call 29; refine (sdead_any (T3.out.keep B4.out).bo.is (T3.out.keep B4.out).bo.st.is).mono ?_; rw [(T3.out).tie.gone]; rintro e w9 ⟨rfl, hw9⟩; obtain rfl := hw9.symm)
          | (go_at_call 28; refine (same_any T3.out).mono ?_; rintro e w4 ⟨rfl, b4⟩; have B4 := Lib.hid b4; clear b4))
        go_roundw
        case rel => exact ⟨k + 1, sb, y2, yd, yr, doR s d p, d, r.doR n p, by omega, rfl, by go_num, Lib.hid (HA.out.next (T3.out.keep B4.out) (by omega) (by exact doR_us _ _ _) (by rw [(doR_same _ _ _).stamp]; omega) (by rw [doR_marks]; omega) (by omega))⟩
        case measure => simp [intOf]; omega
      · have h9 : (dw : Int) % 9 = 3 := u9 dw 3 hρ.symm
        clear hr9 hρ
        go_wp2_with (first
          | (go_at_call 29; refine (sdead_any (T3.out.keep B4.out).bo.is (T3.out.keep B4.out).bo.st.is).mono ?_; rw [(T3.out).tie.gone]; rintro e w9 ⟨rfl, hw9⟩; obtain rfl := hw9.symm)
          | (go_at_call 28; refine (same_any T3.out).mono ?_; rintro e w4 ⟨rfl, b4⟩; have B4 := Lib.hid b4; clear b4)
          | (go_at_call 20; refine (rmark_any H2.out.rs (by have := HA.out.ms; omega)).mono ?_; rintro e w3 ⟨rfl, yr3, i3, k3⟩; have T3 := Lib.hid (H2.out.right k3 i3); clear i3 k3)
          | (go_at_call 19; (try rw [← HX.out]); refine (T1'.out.Mark (by have := HA.out.us; omega)).mono ?_; rintro e w2 ⟨rfl, y2, h2, k2⟩; have H2 := Lib.hid h2; clear h2 k2))
        go_roundw
        case rel => exact ⟨k + 1, sb, y2, yd, yr3, doM s d, d, r.mark, by omega, rfl, by go_num, Lib.hid (HA.out.next (T3.out.keep B4.out) (by omega) (by exact doM_us _ _) (by rw [(doM_same _ _).stamp]; omega) (by show (r.marks ++ [r.now]).length ≤ _; simp) (by omega))⟩
        case measure => simp [intOf]; omega
      · have h9 : (dw : Int) % 9 = 4 := u9 dw 4 hρ.symm
        clear hr9 hρ
        go_wp2_with (fail)
        rw [← HX.out]
        obtain ⟨ga, hga⟩ : ∃ ga, ga = wr.heap.size := ⟨_, rfl⟩
        rw [← hga] at AC ⊢
        clear hga
        have AD := Lib.hid (AC.out.below (Below.refl _ X).drew)
        have TD := Lib.hid (T1'.out.keep (Below.refl _ X).drew)
        go_region_held3 (fun w' => w'.cell? ⟨ga, 1, none⟩ = some (.int .i64 p))
          (first | exact K3.out | exact K2.out | exact AD.out.c1)
          (first
            | (go_at_call 22; refine (rback_any H2.out.rs p (by have := HA.out.ms; omega)).mono ?_; rintro e w3 ⟨rfl, yr3, i3, k3⟩; have T3 := Lib.hid (H2.out.right k3 i3); have K3 := Lib.hid (show w3.cell? ⟨ga, 1, none⟩ = some (.int .i64 p) from (World.cell?_of_block (k3.free K2A.out.lt K2A.out.n2).2).trans K2A.out.c1); clear i3 k3)
            | (go_at_call 21; refine (TD.out.Back p (by have := HA.out.us; omega)).mono ?_; rintro e w2 ⟨rfl, y2, h2, k2⟩; have H2 := Lib.hid h2; have K2A := Lib.hid (AD.out.kf k2); have K2 := Lib.hid (show w2.cell? ⟨ga, 1, none⟩ = some (.int .i64 p) from K2A.out.c1); clear h2 k2))
        go_wp2_with (first
          | (go_at_call 29; refine (sdead_any (T3.out.keep B4.out).bo.is (T3.out.keep B4.out).bo.st.is).mono ?_; rw [(T3.out).tie.gone]; rintro e w9 ⟨rfl, hw9⟩; obtain rfl := hw9.symm)
          | (go_at_call 28; refine (same_any T3.out).mono ?_; rintro e w4 ⟨rfl, b4⟩; have B4 := Lib.hid b4; clear b4))
        go_roundw
        case rel => exact ⟨k + 1, sb, y2, yd, yr3, doB s d p, d, r.doB p, by omega, rfl, by go_num, Lib.hid (HA.out.next (T3.out.keep B4.out) (by have := HA.out.us; omega) (by exact doB_us _ _ _) (by rw [(doB_same _ _ _).stamp]; omega) (by have := doB_marks r p; omega) (by omega))⟩
        case measure => simp [intOf]; omega
      · have h9 : (dw : Int) % 9 = 5 := u9 dw 5 hρ.symm
        clear hr9 hρ
        go_wp2_with (first
          | (go_at_call 29; refine (sdead_any (T3.out.keep B4.out).bo.is (T3.out.keep B4.out).bo.st.is).mono ?_; rw [(T3.out).tie.gone]; rintro e w9 ⟨rfl, hw9⟩; obtain rfl := hw9.symm)
          | (go_at_call 28; refine (same_any T3.out).mono ?_; rintro e w4 ⟨rfl, b4⟩; have B4 := Lib.hid b4; clear b4)
          | (go_at_call 24; refine (rcommit_any H2.out.rs).mono ?_; rintro e w3 ⟨rfl, yr3, i3, k3⟩; have T3 := Lib.hid (H2.out.right k3 i3); clear i3 k3)
          | (go_at_call 23; (try rw [← HX.out]); refine (T1'.out.Commit (by have := HA.out.st; omega) (by omega)).mono ?_; rintro e w2 ⟨rfl, y2, yd2, h2, k2⟩; have H2 := Lib.hid h2; clear h2 k2))
        go_roundw
        case rel => exact ⟨k + 1, sb, y2, yd2, yr3, stoC s d, diskC s d, r.commit n, by omega, rfl, by go_num, Lib.hid (HA.out.next (T3.out.keep B4.out) (by omega) (by rw [(T1'.out.tie.q.commit (by have := HA.out.st; omega)).2.2.2.2.1]; exact Nat.zero_le _) (by exact (T1'.out.tie.commit (by have := HA.out.st; omega)).2.2) (by exact Nat.zero_le _) (by omega))⟩
        case measure => simp [intOf]; omega
      · have h9 : (dw : Int) % 9 = 6 := u9 dw 6 hρ.symm
        clear hr9 hρ
        go_wp2_with (first
          | (go_at_call 29; refine (sdead_any (T3.out.keep B4.out).bo.is (T3.out.keep B4.out).bo.st.is).mono ?_; rw [(T3.out).tie.gone]; rintro e w9 ⟨rfl, hw9⟩; obtain rfl := hw9.symm)
          | (go_at_call 28; refine (same_any T3.out).mono ?_; rintro e w4 ⟨rfl, b4⟩; have B4 := Lib.hid b4; clear b4)
          | (go_at_call 26; refine (rabort_any H2.out.rs).mono ?_; rintro e w3 ⟨rfl, yr3, i3, k3⟩; have T3 := Lib.hid (H2.out.right k3 i3); clear i3 k3)
          | (go_at_call 25; (try rw [← HX.out]); refine (T1'.out.Abort).mono ?_; rintro e w2 ⟨rfl, y2, h2, k2⟩; have H2 := Lib.hid h2; clear h2 k2))
        go_roundw
        case rel => exact ⟨k + 1, sb, y2, yd, yr3, s.begin s.kept, d, r.abort, by omega, rfl, by go_num, Lib.hid (HA.out.next (T3.out.keep B4.out) (by omega) (by exact Nat.zero_le _) (by exact Nat.le_succ _) (by exact Nat.zero_le _) (by omega))⟩
        case measure => simp [intOf]; omega
      · have h9 : (dw : Int) % 9 = 7 := u9 dw 7 hρ.symm
        clear hr9 hρ
        go_wp2_with (first
          | (go_at_call 29; refine (sdead_any (T3.out.keep B4.out).bo.is (T3.out.keep B4.out).bo.st.is).mono ?_; rw [(T3.out).tie.gone]; rintro e w9 ⟨rfl, hw9⟩; obtain rfl := hw9.symm)
          | (go_at_call 28; refine (same_any T3.out).mono ?_; rintro e w4 ⟨rfl, b4⟩; have B4 := Lib.hid b4; clear b4)
          | (go_at_call 26; refine (rabort_any H2.out.rs).mono ?_; rintro e w3 ⟨rfl, yr3, i3, k3⟩; have T3 := Lib.hid (H2.out.right k3 i3); clear i3 k3)
          | (go_at_call 27; (try rw [← HX.out]); refine (T1'.out.Open (by have := HA.out.st; omega)).mono ?_; rintro e w2 ⟨sb2, y2, rfl, h2, k2, u2, t2⟩; have H2 := Lib.hid h2; clear h2 k2))
        go_roundw
        case rel => exact ⟨k + 1, sb2, y2, yd, yr3, opened d, d, r.abort, by omega, rfl, by go_num, Lib.hid (HA.out.next (T3.out.keep B4.out) (by omega) (by omega) (by omega) (by exact Nat.zero_le _) (by omega))⟩
        case measure => simp [intOf]; omega
      · have h9 : (dw : Int) % 9 = 8 := u9 dw 8 hρ.symm
        clear hr9 hρ
        go_wp2_with (first
          | (go_at_call 29; refine (sdead_any (T1'.out.keep B4.out).bo.is (T1'.out.keep B4.out).bo.st.is).mono ?_; rw [(T1'.out).tie.gone]; rintro e w9 ⟨rfl, hw9⟩; obtain rfl := hw9.symm)
          | (go_at_call 28; rw [← HX.out]; refine (same_any T1'.out).mono ?_; rintro e w4 ⟨rfl, b4⟩; have B4 := Lib.hid b4; clear b4))
        go_roundw
        case rel => exact ⟨k + 1, sb, y, yd, yr, s, d, r, by omega, rfl, by go_num, Lib.hid (HA.out.next (T1'.out.keep B4.out) (by omega) (by omega) (by omega) (by omega) (by omega))⟩
        case measure => simp [intOf]; omega
    · obtain rfl : k = len1 := by omega
      have hlt' : ¬ (k : Int) < (k : Int) := by omega
      go_wp2_with (first
        | (go_at_call 30; refine (goes_any _ HA.out.two.bo.tab).mono ?_; rintro e w11 ⟨rfl, bl11⟩; have BL11 := Lib.hid bl11; clear bl11))
      go_ret
      exact ⟨rfl, HVB.out.trans ((HA.out.two.bo.keep BL11.out).st.bel)⟩
end Go.Proofs.YtnpebfolmdbipaaGreatDoor.Sk

