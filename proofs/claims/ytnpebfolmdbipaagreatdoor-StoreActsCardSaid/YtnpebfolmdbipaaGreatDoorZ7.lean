import Derived.Test.YtnpebfolmdbipaaGreatDoorZ5
import Derived.Test.YtnpebfolmdbipaaGreatDoorFT
import Derived.Test.YtnpebfolmdbipaaGreatDoorDT
import Derived.Test.YtnpebfolmdbipaaGreatDoorZ6
import Derived.Test.YtnpebfolmdbipaaGreatDoorZ3
namespace Go.Proofs.YtnpebfolmdbipaaGreatDoor.Sk
set_option maxRecDepth 8000
set_option linter.unusedVariables false
set_option linter.unusedSimpArgs false
open Go.RowKit Mem Go.ChangeMaps
open Dk (cod elem cod_inj elem_mk elem_inv key key_inj wf_key keyed3 MapIs Fr ptr hmf cell_alloc cell_alloc_new zero42 IsD Dsk Lay drewN_cell Kp ref_zero newD newY)
/-! ### A commit, and the power that goes under way -/
theorem put_wait (d : Dsk) (i : Nat) (l : List UInt8) (j : Nat) : (d.put i l).wait j = if j = i then some l else d.wait j := by
  unfold Dk.Dsk.put; split <;> rfl
theorem put_last (d : Dsk) (i : Nat) (l : List UInt8) (j : Nat) : (d.put i l).last j = d.last j := by
  unfold Dk.Dsk.put; split <;> rfl
theorem burn_fields (d : Dsk) : d.burn.wait = d.wait ∧ d.burn.last = d.last ∧ (d.burnt = true → d.burn.dead = true) ∧ (d.burnt = false → d.burn.dead = d.dead) := by
  unfold Dk.Dsk.burn Dk.Dsk.burnt
  rcases h : d.fuse with _ | _ | k <;> simp
theorem pow_doW {d : Dsk} (h : d.dead = false) {i : Nat} (hi : i < d.n) (l : List UInt8) :
    (∀ j, (d.doW i l).wait j = if j = i then some l else d.wait j) ∧ (∀ j, (d.doW i l).last j = d.last j) ∧ ((d.ansW i = 0 ∧ (d.doW i l).dead = false) ∨ (d.ansW i = 9 ∧ (d.doW i l).dead = true)) := by
  have hr : d.ref i = 0 := (ref_zero d i).2 ⟨h, by omega, by omega⟩
  have e : d.doW i l = (d.put i l).burn := by unfold Dk.Dsk.doW; rw [if_pos hr, Int.toNat_natCast]
  have b := burn_fields (d.put i l)
  rw [e]
  refine ⟨fun j => by rw [b.1]; exact put_wait d i l j, fun j => by rw [b.2.1]; exact put_last d i l j, ?_⟩
  have ea : d.ansW i = d.went := by unfold Dk.Dsk.ansW; rw [if_pos hr]
  have eb : (d.put i l).burnt = d.burnt := by unfold Dk.Dsk.burnt; rw [(put_fields d i l).2]
  rw [ea]; unfold Dk.Dsk.went
  cases hb : d.burnt
  · left; exact ⟨by simp, (b.2.2.2 (eb.trans hb)).trans ((put_fields d i l).1.trans h)⟩
  · right; exact ⟨by simp, b.2.2.1 (eb.trans hb)⟩
theorem pow_doF {d : Dsk} (h : d.dead = false) :
    (d.ansF = 0 ∧ d.doF.dead = false ∧ (∀ j, d.doF.last j = d.page j) ∧ ∀ j, d.doF.wait j = none) ∨ (d.ansF = 9 ∧ d.doF.dead = true ∧ (∀ j, d.doF.last j = d.last j) ∧ ∀ j, d.doF.wait j = d.wait j) := by
  have b := burn_fields d
  unfold Dk.Dsk.ansF Dk.Dsk.doF Dk.Dsk.flush Dk.Dsk.went
  rw [h]
  cases hb : d.burnt
  · left
    refine ⟨rfl, (b.2.2.2 hb).trans h, fun j => ?_, fun j => rfl⟩
    show d.burn.page j = d.page j
    unfold Dk.Dsk.page; rw [b.1, b.2.1]
  · right
    exact ⟨rfl, b.2.2.1 hb, fun j => congrFun b.2.1 j, fun j => congrFun b.1 j⟩
theorem pow_layTo (s : Sto) (t : Nat) (l : List Nat) {d : Dsk} (h : d.dead = false) (hl : ∀ p, p ∈ l → p < d.n) :
    (∀ j, (layTo s t d l).2.last j = d.last j) ∧ (∀ j, j ∉ l → (layTo s t d l).2.wait j = d.wait j) ∧ (((layTo s t d l).1 = 0 ∧ (layTo s t d l).2.dead = false ∧ ∀ j, j ∈ l → (layTo s t d l).2.wait j = some (pageF s t j)) ∨ ((layTo s t d l).1 = 9 ∧ (layTo s t d l).2.dead = true)) := by
  induction l generalizing d with
  | nil => exact ⟨fun _ => rfl, fun _ _ => rfl, .inl ⟨rfl, h, fun j hj => by cases hj⟩⟩
  | cons p l ih =>
    have h1 := pow_doW h (hl p (by simp)) (pageF s t p)
    rw [layTo_cons]
    rcases h1.2.2 with ⟨ha, hd⟩ | ⟨ha, hd⟩
    · rw [if_pos ha]
      have h2 := ih hd (fun q hq => by rw [doW_n]; exact hl q (by simp [hq]))
      refine ⟨fun j => (h2.1 j).trans (h1.2.1 j), fun j hj => ?_, ?_⟩
      · simp only [List.mem_cons, not_or] at hj
        rw [h2.2.1 j hj.2, h1.1 j, if_neg hj.1]
      · rcases h2.2.2 with ⟨e1, e2, e3⟩ | e
        · refine .inl ⟨e1, e2, fun j hj => ?_⟩
          by_cases hjl : j ∈ l
          · exact e3 j hjl
          · have : j = p := by simpa [hjl] using hj
            subst this
            rw [h2.2.1 j hjl, h1.1 j, if_pos rfl]
        · exact .inr e
    · rw [if_neg (by omega)]
      refine ⟨h1.2.1, fun j hj => ?_, .inr ⟨ha, hd⟩⟩
      simp only [List.mem_cons, not_or] at hj
      exact (h1.1 j).trans (if_neg hj.1)
theorem page_still {d : Dsk} {j : Nat} (h : d.wait j = none) : d.page j = d.last j := by unfold Dk.Dsk.page; rw [h]; rfl
/-- What a commit's writes leave, whenever the power goes. -/
theorem pow_write {s : Sto} {d : Dsk} (h : d.dead = false) (hw : ∀ j, d.wait j = none) (hg : SGood s) (hn : s.n = d.n) (hs : s.stamp ≠ 18446744073709551615) :
    ((writeD s d).1 = 0 ∧ (writeD s d).2.dead = false ∧ (∀ j, (writeD s d).2.wait j = none) ∧ ∀ j, (writeD s d).2.page j = if j = s.head then headF s (s.stamp + 1) else if (s.cur.fresh j).isSome then pageF s (s.stamp + 1) j else d.page j)
    ∨ ((writeD s d).1 = 9 ∧ (writeD s d).2.dead = true ∧ ((∀ j, s.cur.fresh j = none → (writeD s d).2.last j = d.page j ∧ (writeD s d).2.wait j = none)
      ∨ ((∀ j, j ≠ s.head → (writeD s d).2.wait j = none ∧ (writeD s d).2.last j = if (s.cur.fresh j).isSome then pageF s (s.stamp + 1) j else d.page j) ∧ (writeD s d).2.last s.head = d.page s.head ∧ (writeD s d).2.wait s.head = some (headF s (s.stamp + 1))))) := by
  have hfr : ∀ p, p ∈ freshPs s ↔ (s.cur.fresh p).isSome = true := fun p => by
    rw [mem_freshPs]
    refine ⟨fun e => e.2, fun e => ⟨?_, e⟩⟩
    have h1 := (hg.cur.fresh p).1 (by intro e2; rw [e2] at e; cases e)
    have h2 := hg.cur.has p h1.1
    have := hg.n5
    omega
  have hlt : ∀ p, p ∈ freshPs s → p < d.n := fun p hp => by
    have h1 := (hg.cur.fresh p).1 (by intro e2; have := (hfr p).1 hp; rw [e2] at this; cases this)
    have h2 := hg.cur.has p h1.1
    omega
  have hfh : s.cur.fresh s.head = none := by
    rcases hf : s.cur.fresh s.head with _ | l
    · rfl
    · have h1 := (hg.cur.fresh s.head).1 (by rw [hf]; simp)
      have h2 := hg.cur.has _ h1.1
      have : s.head < 2 := by unfold Sto.head; omega
      omega
  have hnot : ∀ j, s.cur.fresh j = none → j ∉ freshPs s := fun j hj hm => by
    have := (hfr j).1 hm; rw [hj] at this; cases this
  have hP := pow_layTo s (s.stamp + 1) (freshPs s) h hlt
  have hwr : writeD s d = w0 s (s.stamp + 1) d := if_neg hs
  have hln : (layTo s (s.stamp + 1) d (freshPs s)).2.n = d.n := layTo_n _ _ _ _
  rw [hwr]
  unfold w0
  generalize layTo s (s.stamp + 1) d (freshPs s) = L at hP hln
  have hA : ∀ D : Dsk, (∀ j, D.last j = L.2.last j) → (∀ j, D.wait j = L.2.wait j) → ∀ j, s.cur.fresh j = none → D.last j = d.page j ∧ D.wait j = none := fun D h1 h2 j hj => by
    rw [h1 j, h2 j, hP.1 j, hP.2.1 j (hnot j hj), page_still (hw j), hw j]
    exact ⟨rfl, rfl⟩
  rcases hP.2.2 with ⟨e1, e2, e3⟩ | ⟨e1, e2⟩
  · rw [if_pos e1]
    have hLp : ∀ j, L.2.page j = if (s.cur.fresh j).isSome then pageF s (s.stamp + 1) j else d.page j := fun j => by
      by_cases hj : (s.cur.fresh j).isSome = true
      · rw [if_pos hj]; unfold Dk.Dsk.page; rw [e3 j ((hfr j).2 hj)]; rfl
      · rw [if_neg hj]
        have hj' : s.cur.fresh j = none := by simpa using hj
        have hwj := hP.2.1 j (hnot j hj')
        rw [hw j] at hwj
        rw [page_still hwj, hP.1 j, page_still (hw j)]
    unfold w1
    rcases pow_doF e2 with ⟨f1, f2, f3, f4⟩ | ⟨f1, f2, f3, f4⟩
    · rw [if_pos f1]
      have hFn : L.2.doF.n = d.n := (doF_n _).trans hln
      generalize L.2.doF = F at f2 f3 f4 hFn
      have hh : s.head < F.n := by rw [hFn]; have := hg.n4; unfold Sto.head; omega
      have g := pow_doW f2 hh (headF s (s.stamp + 1))
      unfold w2
      have hGo : ∀ j, j ≠ s.head → (F.doW s.head (headF s (s.stamp + 1))).wait j = none ∧ (F.doW s.head (headF s (s.stamp + 1))).last j = if (s.cur.fresh j).isSome then pageF s (s.stamp + 1) j else d.page j := fun j hj => by
        rw [g.1 j, if_neg hj, g.2.1 j, f3 j, f4 j]
        exact ⟨rfl, hLp j⟩
      have hGl : (F.doW s.head (headF s (s.stamp + 1))).last s.head = d.page s.head := by
        rw [g.2.1, f3, hLp, hfh]; rfl
      have hGw : (F.doW s.head (headF s (s.stamp + 1))).wait s.head = some (headF s (s.stamp + 1)) := by
        rw [g.1, if_pos rfl]
      rcases g.2.2 with ⟨k1, k2⟩ | ⟨k1, k2⟩
      · rw [if_pos k1]
        unfold w3
        generalize F.doW s.head (headF s (s.stamp + 1)) = G at k2 hGo hGl hGw
        rcases pow_doF k2 with ⟨r1, r2, r3, r4⟩ | ⟨r1, r2, r3, r4⟩
        · refine .inl ⟨r1, r2, r4, fun j => ?_⟩
          show G.doF.page j = _
          rw [page_still (r4 j), r3 j]
          by_cases hj : j = s.head
          · rw [if_pos hj, hj]; unfold Dk.Dsk.page; rw [hGw]; rfl
          · rw [if_neg hj, page_still (hGo j hj).1, (hGo j hj).2]
        · refine .inr ⟨r1, r2, .inr ⟨fun j hj => ?_, ?_, ?_⟩⟩
          · show G.doF.wait j = none ∧ G.doF.last j = _
            rw [r4 j, r3 j]; exact hGo j hj
          · show G.doF.last s.head = _
            rw [r3]; exact hGl
          · show G.doF.wait s.head = _
            rw [r4]; exact hGw
      · rw [if_neg (by omega)]
        exact .inr ⟨k1, k2, .inr ⟨hGo, hGl, hGw⟩⟩
    · rw [if_neg (by omega)]
      exact .inr ⟨f1, f2, .inl (hA _ f3 f4)⟩
  · rw [if_neg (by omega)]
    exact .inr ⟨e1, e2, .inl (hA _ (fun _ => rfl) fun _ => rfl)⟩
/-! ### What is there when the power comes again -/
theorem idx_none {d : Dsk} (hg : Dk.Good d) {j : Nat} (h : d.wait j = none) : d.order.idxOf? j = none := by
  have : j ∉ d.order := fun e => ((hg.mem j).1 e).2 h
  simpa using this
theorem restart_same {d : Dsk} (hg : Dk.Good d) (fs : List Int) {j : Nat} (h : d.wait j = none) : (d.restart fs).page j = d.last j := by
  rw [restart_page, Dk.restart_last d fs hg j, idx_none hg h]
theorem sec_eq (l : List UInt8) (q : Nat) : Fm.sec l q = Dk.sector l q := rfl
theorem restart_mix {d : Dsk} (hg : Dk.Good d) (fs : List Int) {j : Nat} {l : List UInt8} (h : d.wait j = some l) (hl : l.length = 4096) (ho : (d.last j).length = 4096) :
    ∃ p : Nat → Prop, Fm.Mix (d.last j) l ((d.restart fs).page j) p := by
  have hpg : d.page j = l := by unfold Dk.Dsk.page; rw [h]; rfl
  have hno : Fm.Mix (d.last j) l (d.last j) (fun _ => False) := ⟨ho, hl, ho, fun _ _ e => e.elim, fun _ _ _ => rfl⟩
  rw [restart_page, Dk.restart_last d fs hg j, hpg]
  rcases d.order.idxOf? j with _ | k
  · exact ⟨_, hno⟩
  · show ∃ p, Fm.Mix _ _ (if k < fs.length then _ else _) p
    by_cases hk : k < fs.length
    · rw [if_pos hk]
      refine ⟨fun q => Dk.bit (fs.getD k 0) q = true, ⟨ho, hl, Dk.torn_len _ _ _ ho hl, fun q hq hp => ?_, fun q hq hp => ?_⟩⟩
      · rw [sec_eq, sec_eq, Dk.torn_sector _ _ _ ho hl q hq, if_pos hp]
      · rw [sec_eq, sec_eq, Dk.torn_sector _ _ _ ho hl q hq, if_neg hp]
    · rw [if_neg hk]; exact ⟨_, hno⟩
/-- A head that is torn is none: what the other one says is there. -/
theorem lk_torn {d d' : Dsk} {n h : Nat} (hf : h = 1 - (lkTo d n 2).force) (hq : d'.page (1 - h) = d.page (1 - h)) (hnw : ¬ Frm.whole (d'.page h) h 1) :
    (lkTo d' n 2).kept = (lkTo d n 2).kept := by
  have e0 : ∀ D : Dsk, lkTo D n 2 = lkStep D n 1 (lkStep D n 0 lk0) := fun _ => rfl
  have f0 : ∀ D : Dsk, (lkStep D n 0 lk0).force = 0 := fun D => by unfold lkStep; split <;> rfl
  have b0 : (lkStep d n 0 lk0).best ≤ Frm.newest (d.page 0) := (lk_le d n).2.1
  by_cases ht : takes d n 1 (lkStep d n 0 lk0)
  · have hfo : (lkTo d n 2).force = 1 := by rw [e0, lk_yes ht]
    rw [hfo] at hf
    obtain rfl : h = 0 := hf
    have hq' : d'.page 1 = d.page 1 := hq
    have hn0 : ¬ takes d' n 0 lk0 := fun e => hnw e.1
    have ht' : takes d' n 1 (lkStep d' n 0 lk0) := by
      rw [lk_no hn0]
      unfold takes at ht ⊢
      rw [hq']
      exact ⟨ht.1, by show (0 : Nat) < _; have := ht.2.1; omega, ht.2.2⟩
    rw [e0, e0, lk_yes ht, lk_yes ht', hq']
  · have hfo : (lkTo d n 2).force = 0 := by rw [e0, lk_no ht]; exact f0 d
    rw [hfo] at hf
    obtain rfl : h = 1 := hf
    have hq' : d'.page 0 = d.page 0 := hq
    have ht' : ¬ takes d' n 1 (lkStep d' n 0 lk0) := fun e => hnw e.1
    rw [e0, e0, lk_no ht, lk_no ht']
    show (lkStep d' n 0 lk0).kept = (lkStep d n 0 lk0).kept
    rw [lkStep_congr hq']
theorem quiet_opened {d : Dsk} (hl : Liv d) (hw : ∀ j, d.wait j = none) (h4 : 4 ≤ d.n) (h5 : d.n ≤ 4096) (hp : ∀ p, (lkTo d d.n 2).kept.has p = true → Frm.whole (d.page p) p 2) : Quiet (opened d) d :=
  { liv := hl, wait := hw, sd := rfl, nn := rfl, good := opened_good d h4 h5, lkK := rfl, lkF := rfl, lkS := rfl, whole := hp }
end Go.Proofs.YtnpebfolmdbipaaGreatDoor.Sk

namespace Go.Proofs.YtnpebfolmdbipaaGreatDoor.Sk
set_option maxRecDepth 8000
set_option linter.unusedVariables false
set_option linter.unusedSimpArgs false
open Go.RowKit Mem Go.ChangeMaps
open Dk (cod elem cod_inj elem_mk elem_inv key key_inj wf_key keyed3 MapIs Fr ptr hmf cell_alloc cell_alloc_new zero42 IsD Dsk Lay drewN_cell Kp ref_zero newD newY)
/-! ### A commit ahead of which a fuse may be set, and what is opened behind it -/
/-- What a state's pages hold. -/
def keptV (t : Sta) (d : Dsk) (n : Nat) : Pages := fun p => if p < n ∧ t.has p = true then (if Frm.whole (d.page p) p 2 then some (Frm.held (d.page p)) else none) else none
theorem shotV_kept {s : Sto} {t : Sta} (h : s.cur = Vw.base t) (d : Dsk) (n : Nat) : shotV s d n = keptV t d n := shotV_base h d n
theorem keptV_congr {t : Sta} {d d' : Dsk} (n : Nat) (h : ∀ p, t.has p = true → d'.page p = d.page p) : keptV t d' n = keptV t d n := by
  funext p; unfold keptV
  by_cases e : p < n ∧ t.has p = true
  · rw [if_pos e, if_pos e, h p e.2]
  · rw [if_neg e, if_neg e]
/-- The same disk but for its fuse. -/
structure Fus (d d1 : Dsk) : Prop where
  dead : d1.dead = d.dead
  last : d1.last = d.last
  wait : d1.wait = d.wait
  n : d1.n = d.n
theorem Fus.refl (d : Dsk) : Fus d d := ⟨rfl, rfl, rfl, rfl⟩
theorem Fus.to (d : Dsk) (k : Int) : Fus d (d.fuseTo k) := by
  unfold Dk.Dsk.fuseTo; split
  · exact Fus.refl d
  · exact ⟨rfl, rfl, rfl, rfl⟩
theorem Fus.page {d d1 : Dsk} (f : Fus d d1) (j : Nat) : d1.page j = d.page j := by unfold Dk.Dsk.page; rw [f.wait, f.last]
theorem fuse_off {d : Dsk} (h : d.dead = false) : Liv (d.fuseTo (-1)) := by
  unfold Dk.Dsk.fuseTo; rw [if_neg (by rw [h]; decide)]; exact ⟨h, rfl⟩
theorem Quiet.alike {s : Sto} {d D : Dsk} (h : Quiet s d) (hp : ∀ j, D.page j = d.page j) (hl : Liv D) (hw : ∀ j, D.wait j = none) (hn : D.n = d.n) : Quiet s D :=
  have e : lkTo D D.n 2 = lkTo d d.n 2 := by rw [hn]; exact lk_congr (fun a _ => hp a) d.n
  { liv := hl, wait := hw, sd := h.sd, nn := h.nn.trans hn.symm, good := h.good, lkK := by rw [e]; exact h.lkK, lkF := by rw [e]; exact h.lkF, lkS := by rw [e]; exact h.lkS
    whole := fun p hp2 => by rw [hp p]; exact h.whole p hp2 }
theorem quiet_wrote {s : Sto} {d D : Dsk} (h : Quiet s d) (hs : s.stamp < 18446744073709551000) (hl : Liv D) (hw : ∀ j, D.wait j = none) (hn : D.n = d.n)
    (hp : ∀ j, D.page j = if j = s.head then headF s (s.stamp + 1) else if (s.cur.fresh j).isSome then pageF s (s.stamp + 1) j else d.page j) (n : Nat) :
    Quiet (s.wrote.begin s.cur.now) D ∧ keptV s.cur.now D n = shotV s d n := by
  have hn4 := h.good.n4
  have hn5 := h.good.n5
  have hhd : s.head < 2 := by unfold Sto.head; omega
  have hpg : ∀ p, s.cur.now.has p = true → D.page p = match s.cur.fresh p with | some l => Frm.frame p 2 (s.stamp + 1) l | none => d.page p := fun p hp1 => by
    rw [hp p]
    have h2 := (h.good.cur.has p hp1).1
    rw [if_neg (by omega)]
    rcases hf : s.cur.fresh p with _ | l
    · rfl
    · show (if true = true then _ else _) = _
      rw [if_pos rfl]; unfold pageF; rw [hf]; rfl
  have hlp : ∀ p l, s.cur.fresh p = some l → l.length ≤ 4011 := h.good.cur.len
  have hwh : ∀ p, s.cur.now.has p = true → Frm.whole (D.page p) p 2 := fun p hp1 => by
    rw [hpg p hp1]
    have h2 := h.good.cur.has p hp1
    rcases hf : s.cur.fresh p with _ | l
    · refine h.whole p ?_
      rcases hk : s.kept.has p with _ | _
      · exact absurd hf ((h.good.cur.fresh p).2 ⟨hp1, hk⟩)
      · rfl
    · exact (Frm.whole_frame p 2 (s.stamp + 1) p 2 l (hlp p l hf) (by omega) (by omega) (by omega) (by omega) (by omega)).2 ⟨rfl, rfl⟩
  have hlk := lk_commit (d := d) (d' := D) (n := d.n) (S := s.stamp) (h := s.head) (t := s.cur.now) h.lkS hhd (by rw [hp, if_pos rfl]; unfold headF; rw [h.nn]) (by
      rw [hp, if_neg (by omega)]
      have : s.cur.fresh (1 - s.head) = none := by
        rcases hf : s.cur.fresh (1 - s.head) with _ | l
        · rfl
        · have := (h.good.cur.fresh (1 - s.head)).1 (by rw [hf]; simp)
          have := (h.good.cur.has _ this.1).1
          omega
      rw [this]; rfl) (by rw [← h.nn]; exact h.good.cur.sta) (by rw [← h.nn]; exact hn4) (by rw [← h.nn]; exact hn5) (by omega)
  refine ⟨⟨hl, hw, h.sd, h.nn.trans hn.symm, begin_good (wrote_good h.good (by omega)) _ h.good.cur.sta, ?_, ?_, ?_, hwh⟩, ?_⟩
  · rw [hn, hlk]; rfl
  · rw [hn, hlk]; rfl
  · rw [hn, hlk]; rfl
  · funext p
    unfold keptV shotV
    by_cases e : p < n ∧ s.cur.now.has p = true
    · rw [if_pos e, if_pos e, if_pos (hwh p e.2), hpg p e.2]
      unfold rdOf
      rcases hf : s.cur.fresh p with _ | l
      · have hk : s.kept.has p = true := by
          rcases hk : s.kept.has p with _ | _
          · exact absurd hf ((h.good.cur.fresh p).2 ⟨e.2, hk⟩)
          · rfl
        show some (Frm.held (d.page p)) = if Frm.whole (d.page p) p 2 then some (Frm.held (d.page p)) else none
        rw [if_pos (h.whole p hk)]
      · show some (Frm.held (Frm.frame p 2 (s.stamp + 1) l)) = some l
        rw [Frm.held_frame _ _ _ _ (hlp p l hf)]
    · rw [if_neg e, if_neg e]
/-- What is opened, where the heads say what they said, and the pages that were kept stay. -/
theorem quiet_back {s : Sto} {d D : Dsk} (h : Quiet s d) (hl : Liv D) (hw : ∀ j, D.wait j = none) (hn : D.n = d.n) (hk : (lkTo D D.n 2).kept = s.kept) (hp : ∀ p, s.kept.has p = true → D.page p = d.page p) (n : Nat) :
    Quiet (opened D) D ∧ keptV (opened D).kept D n = keptV s.kept d n ∧ (opened D).kept.root = s.kept.root := by
  have h4 : 4 ≤ D.n := by rw [hn, ← h.nn]; exact h.good.n4
  have h5 : D.n ≤ 4096 := by rw [hn, ← h.nn]; exact h.good.n5
  have ek : (opened D).kept = s.kept := hk
  refine ⟨quiet_opened hl hw h4 h5 fun p hp2 => ?_, ?_, by rw [ek]⟩
  · rw [hk] at hp2; rw [hp p hp2]; exact h.whole p hp2
  · rw [ek]; exact keptV_congr n hp
/-- What may have become of a commit, behind which the power comes again. -/
structure Came (s : Sto) (d D : Dsk) (n : Nat) : Prop where
  quiet : Quiet (opened D) D
  stamp : (opened D).stamp ≤ s.stamp + 1
  what : (keptV (opened D).kept D n = keptV s.kept d n ∧ (opened D).kept.root = s.kept.root) ∨ (keptV (opened D).kept D n = shotV s d n ∧ (opened D).kept.root = s.cur.now.root)
theorem came_after {s : Sto} {d E : Dsk} (h : Quiet s d) (hs : s.stamp < 18446744073709551000) (hg : Dk.Good E) (hn : E.n = d.n) (hlen : ∀ i, i < d.n → (d.page i).length = 4096) (fs : List Int) (n : Nat)
    (hE : (∀ j, s.cur.fresh j = none → E.last j = d.page j ∧ E.wait j = none) ∨ ((∀ j, j ≠ s.head → E.wait j = none ∧ E.last j = if (s.cur.fresh j).isSome then pageF s (s.stamp + 1) j else d.page j) ∧ E.last s.head = d.page s.head ∧ E.wait s.head = some (headF s (s.stamp + 1)))) :
    Came s d (E.restart fs) n := by
  have hl := restart_liv E fs
  have hw := restart_wait E fs
  have hn2 : (E.restart fs).n = d.n := (restart_n E fs).trans hn
  have hn4 := h.good.n4
  have hn5 := h.good.n5
  have hhd : s.head < 2 := by unfold Sto.head; omega
  have hfl : ∀ a, a < 2 → s.cur.fresh a = none := fun a ha => by
    rcases hf : s.cur.fresh a with _ | l
    · rfl
    · have h1 := (h.good.cur.fresh a).1 (by rw [hf]; simp)
      have h2 := h.good.cur.has _ h1.1
      omega
  have hfk : ∀ p, s.kept.has p = true → s.cur.fresh p = none := fun p hp => by
    rcases hf : s.cur.fresh p with _ | l
    · rfl
    · have h1 := (h.good.cur.fresh p).1 (by rw [hf]; simp)
      rw [hp] at h1; cases h1.2
  have hSt : (lkTo d d.n 2).stamp = max (Frm.newest (d.page 0)) (Frm.newest (d.page 1)) := (lk_le d d.n).1
  have hSt2 := (lk_le (E.restart fs) (E.restart fs).n).1
  have hop : ∀ D : Dsk, (opened D).stamp = (lkTo D D.n 2).stamp := fun _ => rfl
  rcases hE with hA | ⟨hO, hL, hW⟩
  · have hp : ∀ j, s.cur.fresh j = none → (E.restart fs).page j = d.page j := fun j hj => by
      rw [restart_same hg fs (hA j hj).2, (hA j hj).1]
    have e : lkTo (E.restart fs) (E.restart fs).n 2 = lkTo d d.n 2 := by rw [hn2]; exact lk_congr (fun a ha => hp a (hfl a ha)) d.n
    obtain ⟨q1, q2, q3⟩ := quiet_back h hl hw hn2 (by rw [e]; exact h.lkK) (fun p hp2 => hp p (hfk p hp2)) n
    exact ⟨q1, by rw [hop, e, h.lkS]; omega, .inl ⟨q2, q3⟩⟩
  · have hp : ∀ j, j ≠ s.head → (E.restart fs).page j = if (s.cur.fresh j).isSome then pageF s (s.stamp + 1) j else d.page j := fun j hj => by
      rw [restart_same hg fs (hO j hj).1, (hO j hj).2]
    have hp1 : (E.restart fs).page (1 - s.head) = d.page (1 - s.head) := by
      rw [hp _ (by omega), hfl _ (by omega)]; rfl
    have hpk : ∀ p, s.kept.has p = true → (E.restart fs).page p = d.page p := fun p hp2 => by
      have h2 := (h.good.kept.has p hp2).1
      rw [hp p (by omega), hfk p hp2]; rfl
    have hfr : (headOf s.cur.now s.n).length ≤ 4011 := by rw [headOf_len]; omega
    have hhl : (headF s (s.stamp + 1)).length = 4096 := by unfold headF; exact Frm.length_frame _ _ _ _ hfr
    obtain ⟨p, hm⟩ := restart_mix hg fs hW hhl (by rw [hL]; exact hlen _ (by rw [← h.nn]; omega))
    rw [hL] at hm
    have hnew : Frm.newest (headF s (s.stamp + 1)) = s.stamp + 1 := by unfold headF; exact Frm.newest_frame _ _ _ _ hfr (by omega)
    have hle := hm.newest_le
    rw [hnew] at hle
    have hS0 : Frm.newest (d.page 0) ≤ s.stamp ∧ Frm.newest (d.page 1) ≤ s.stamp := by
      rw [h.lkS] at hSt; omega
    have hold : ∀ a, a < 2 → Frm.newest (d.page a) ≤ s.stamp := fun a ha => by
      rcases (by omega : a = 0 ∨ a = 1) with rfl | rfl
      · exact hS0.1
      · exact hS0.2
    have hstp : (opened (E.restart fs)).stamp ≤ s.stamp + 1 := by
      rw [hop, hSt2]
      have h1 := hold s.head hhd
      have h2 := hold (1 - s.head) (by omega)
      rw [← hp1] at h2
      rcases (by omega : s.head = 0 ∨ s.head = 1) with e | e
      · rw [e] at hle h2 h1; simp only [Nat.sub_zero] at h2; omega
      · rw [e] at hle h2 h1; simp only [Nat.sub_self] at h2; omega
    by_cases hall : ∀ q, q < 8 → p q
    · have hz := hm.all hall
      have hpp : ∀ j, (E.restart fs).page j = if j = s.head then headF s (s.stamp + 1) else if (s.cur.fresh j).isSome then pageF s (s.stamp + 1) j else d.page j := fun j => by
        by_cases e : j = s.head
        · rw [if_pos e, e]; exact hz
        · rw [if_neg e]; exact hp j e
      obtain ⟨Q, V⟩ := quiet_wrote h hs hl hw hn2 hpp n
      have ek : (opened (E.restart fs)).kept = s.cur.now := Q.lkK
      exact ⟨quiet_opened hl hw (by rw [hn2, ← h.nn]; exact hn4) (by rw [hn2, ← h.nn]; exact hn5) fun p' hp' => Q.whole p' (by rw [Q.lkK] at hp'; exact hp'), hstp, .inr ⟨by rw [ek]; exact V, by rw [ek]⟩⟩
    · by_cases hnone : ∀ q, q < 8 → ¬ p q
      · have hz := hm.none hnone
        have e : lkTo (E.restart fs) (E.restart fs).n 2 = lkTo d d.n 2 := by
          rw [hn2]; refine lk_congr (fun a ha => ?_) d.n
          by_cases ea : a = s.head
          · rw [ea]; exact hz
          · rw [show a = 1 - s.head by omega]; exact hp1
        obtain ⟨q1, q2, q3⟩ := quiet_back h hl hw hn2 (by rw [e]; exact h.lkK) hpk n
        exact ⟨q1, hstp, .inl ⟨q2, q3⟩⟩
      · have hy : ∃ q, q < 8 ∧ p q := by
          refine Classical.byContradiction fun e => hnone fun q hq hpq => e ⟨q, hq, hpq⟩
        have hno : ∃ q, q < 8 ∧ ¬ p q := by
          refine Classical.byContradiction fun e => hall fun q hq => Classical.byContradiction fun hpq => e ⟨q, hq, hpq⟩
        have ht := hm.torn hfr (by omega) (by have := hold s.head hhd; omega) hy hno (s.head : Int) 1
        have hnw : ¬ Frm.whole ((E.restart fs).page s.head) s.head 1 := fun e => ht.2 ⟨by omega, by rw [Int.toNat_natCast]; exact e⟩
        have ek : (lkTo (E.restart fs) (E.restart fs).n 2).kept = s.kept := by
          rw [hn2, lk_torn (d := d) (h := s.head) (by rw [h.lkF]; rfl) hp1 hnw]; exact h.lkK
        obtain ⟨q1, q2, q3⟩ := quiet_back h hl hw hn2 ek hpk n
        exact ⟨q1, hstp, .inl ⟨q2, q3⟩⟩
/-- A commit that went well. -/
structure Went (s : Sto) (d d1 : Dsk) (n : Nat) : Prop where
  ans : ansC s d1 = 0
  quiet : Quiet (stoC s d1) ((diskC s d1).fuseTo (-1))
  pages : keptV (stoC s d1).kept ((diskC s d1).fuseTo (-1)) n = shotV s d n
  root : (stoC s d1).kept.root = s.cur.now.root
  us : (stoC s d1).us = []
  stamp : (stoC s d1).stamp ≤ s.stamp + 1
  sz : (stoC s d1).n = s.n
/-- One that did not. -/
structure Fell (s : Sto) (d d1 : Dsk) (n : Nat) : Prop where
  ans : ansC s d1 = 9
  sd : (stoC s d1).dead = true
  dead : (diskC s d1).dead = true
  sz : (diskC s d1).n = d.n
  came : Dk.Good (diskC s d1) → ∀ fs, Came s d ((diskC s d1).restart fs) n
theorem pow_commit {s : Sto} {d d1 : Dsk} (h : Quiet s d) (f : Fus d d1) (hlen : ∀ i, i < d.n → (d.page i).length = 4096) (hs : s.stamp < 18446744073709551000) (n : Nat) : Went s d d1 n ∨ Fell s d d1 n := by
  have hd1 : d1.dead = false := f.dead.trans h.liv.dead
  have hw1 : ∀ j, d1.wait j = none := fun j => by rw [f.wait]; exact h.wait j
  have hg1 : gone s d1 = false := by unfold gone; rw [h.sd, hd1]; rfl
  by_cases hc : s.changed = true
  · have hP := pow_write hd1 hw1 h.good (h.nn.trans f.n.symm) (by omega : s.stamp ≠ 18446744073709551615)
    have hnW : (writeD s d1).2.n = d.n := (writeD_n s d1).trans f.n
    have eD : diskC s d1 = (writeD s d1).2 := by unfold diskC comD; rw [hg1, if_pos hc]; rfl
    rcases hP with ⟨p1, p2, p3, p4⟩ | ⟨p1, p2, p3⟩
    · have ea : comA s d1 = 0 := by unfold comA; rw [if_pos hc]; exact p1
      have eS : stoC s d1 = s.wrote.begin s.cur.now := by
        unfold stoC comS; rw [hg1, ea, if_pos hc, if_pos p1]; rfl
      have F := Fus.to (writeD s d1).2 (-1)
      obtain ⟨Q, V⟩ := quiet_wrote (D := (writeD s d1).2.fuseTo (-1)) h hs (fuse_off p2) (fun j => by rw [F.wait]; exact p3 j) (F.n.trans hnW) (fun j => by rw [F.page, p4 j, f.page j]) n
      refine .inl ⟨?_, ?_, ?_, ?_, ?_, ?_, ?_⟩
      · unfold ansC; rw [hg1]; exact ea
      · rw [eS, eD]; exact Q
      · rw [eS, eD]; exact V
      · rw [eS]; rfl
      · rw [eS]; rfl
      · rw [eS]; exact Nat.le_refl _
      · rw [eS]; rfl
    · have ea : comA s d1 = 9 := by unfold comA; rw [if_pos hc]; exact p1
      refine .inr ⟨?_, ?_, ?_, ?_, ?_⟩
      · unfold ansC; rw [hg1]; exact ea
      · unfold stoC; rw [hg1, if_pos ea]; rfl
      · rw [eD]; exact p2
      · rw [eD]; exact hnW
      · intro hg fs
        rw [eD] at hg ⊢
        refine came_after h hs hg hnW hlen fs n ?_
        rcases p3 with a | ⟨a, b, c⟩
        · exact .inl fun j hj => by rw [← f.page j]; exact a j hj
        · exact .inr ⟨fun j hj => by rw [← f.page j]; exact a j hj, by rw [← f.page]; exact b, c⟩
  · have hc' : s.changed = false := by simpa using hc
    have hcur := h.good.same hc'
    have ea : comA s d1 = 0 := by unfold comA; rw [if_neg hc]
    have eD : diskC s d1 = d1 := by unfold diskC comD; rw [hg1, if_neg hc]; rfl
    have eS : stoC s d1 = s.begin s.cur.now := by unfold stoC comS; rw [hg1, ea, if_neg hc]; rfl
    have ek : s.cur.now = s.kept := by rw [hcur]; rfl
    have F := Fus.to d1 (-1)
    have Q : Quiet (s.begin s.cur.now) d := h.act ⟨rfl, by rw [ek]; rfl, rfl, rfl, rfl⟩ (begin_good h.good _ h.good.cur.sta)
    have Q2 := Q.alike (D := d1.fuseTo (-1)) (fun j => (F.page j).trans (f.page j)) (fuse_off hd1) (fun j => by rw [F.wait]; exact hw1 j) (F.n.trans f.n)
    refine .inl ⟨?_, ?_, ?_, ?_, ?_, ?_, ?_⟩
    · unfold ansC; rw [hg1]; exact ea
    · rw [eS, eD]; exact Q2
    · rw [eS, eD, shotV_kept hcur d n]
      show keptV s.cur.now _ n = _
      rw [ek]
      exact keptV_congr n fun p _ => (F.page p).trans (f.page p)
    · rw [eS]; rfl
    · rw [eS]; rfl
    · rw [eS]; exact Nat.le_succ _
    · rw [eS]; rfl
end Go.Proofs.YtnpebfolmdbipaaGreatDoor.Sk

namespace Go.Proofs.YtnpebfolmdbipaaGreatDoor.Sk
set_option maxRecDepth 8000
set_option linter.unusedVariables false
set_option linter.unusedSimpArgs false
open Go.RowKit Mem Go.ChangeMaps
open Dk (cod elem cod_inj elem_mk elem_inv key key_inj wf_key keyed3 MapIs Fr ptr hmf cell_alloc cell_alloc_new zero42 IsD Dsk Lay drewN_cell Kp ref_zero newD newY RdI)
/-- Between two acts of StoreCrash. -/
structure CI (B : Nat) (V wr : World) (db gl n k c sb : Nat) (y : SLay) (yd : Lay) (s : Sto) (d : Dsk) (b : Nat) : Prop where
  bo : Bo B V wr sb db y yd s d (20000 * k)
  q : Quiet s d
  us : s.us.length ≤ k
  st : s.stamp ≤ k
  sz : d.n = n
  sh : Sh wr (both y yd) gl b (s.kept.root : Int) (keptV s.kept d n)
  c : c ≤ k
theorem CI.act {B : Nat} {V wr w4 : World} {db gl n k c sb : Nat} {y y4 : SLay} {yd : Lay} {s : Sto} {d : Dsk} {b : Nat} (h : CI B V wr db gl n k c sb y yd s d b) (a : ActD) (hk : k ≤ 60) (b4 : Bo B V w4 sb db y4 yd (doA s d a) d (20000 * k + 2 + s.us.length)) (k4 : Kf (both y yd) wr w4 (both y4 yd)) :
    CI B V w4 db gl n (k + 1) c sb y4 yd (doA s d a) d b :=
  have e := doA_same s d a
  { bo := b4.mono (by have := h.us; omega), q := h.q.act e b4.good, us := by have := doA_us s d a; have := h.us; omega, st := by rw [e.stamp]; have := h.st; omega, sz := h.sz
    sh := by rw [e.kept]; exact h.sh.kf k4, c := by have := h.c; omega }
theorem CI.next {B : Nat} {V wr w' : World} {db gl n k c sb sb' m : Nat} {y y' : SLay} {yd yd' : Lay} {s s' : Sto} {d d' : Dsk} {b b' : Nat} (h : CI B V wr db gl n k c sb y yd s d b) (bo : Bo B V w' sb' db y' yd' s' d' m) (hm : m ≤ 20000 * k + 10000) (q : Quiet s' d') (us : s'.us = []) (st : s'.stamp ≤ s.stamp + 1) (sz : d'.n = n)
    (sh : Sh w' (both y' yd') gl b' (s'.kept.root : Int) (keptV s'.kept d' n)) : CI B V w' db gl n (k + 1) (c + 1) sb' y' yd' s' d' b' :=
  { bo := bo.mono (by omega), q := q, us := by rw [us]; exact Nat.zero_le _, st := by have := h.st; omega, sz := sz, sh := sh, c := by have := h.c; omega }
/-- The cells of a shot, set. -/
theorem Sh.there {w : World} {F : Nat → Prop} {g b : Nat} {r : Int} {V : Pages} (h : Sh w F g b r V) : w.there g 0 2 := fun j hj => by
  rcases (by omega : j = 0 ∨ j = 1) with rfl | rfl <;> exact ⟨by simp [World.cell?, h.cs], by simp [World.frozen?, h.cs]⟩
theorem Sh.f0 {w : World} {F : Nat → Prop} {g b : Nat} {r : Int} {V : Pages} (h : Sh w F g b r V) : w.frozen? ⟨g, 0, none⟩ = false := (h.there 0 (by omega)).2
theorem Sh.f1 {w : World} {F : Nat → Prop} {g b : Nat} {r : Int} {V : Pages} (h : Sh w F g b r V) : w.frozen? ⟨g, 1, none⟩ = false := (h.there 1 (by omega)).2
theorem Sh.set {w : World} {F : Nat → Prop} {g b g2 b2 : Nat} {r r2 : Int} {V V2 : Pages} (h : Sh w F g b r V) (k : Sh w F g2 b2 r2 V2) (hne : b2 ≠ g) :
    Sh (w.setCells g 0 [.int .i64 r2, .map (some b2)]) F g b2 r2 V2 := by
  refine ⟨?_, k.m.of_block ?_, h.fg, k.fb⟩
  · simp [World.setCells, World.setCell, Array.getElem?_modify, h.cs]
  · exact (setCells_fr g _ 0 w).block b2 k.m.lt (fun e => hne e)
section
variable {B : Nat} {W w w' : World} {sb db : Nat} {y y' : SLay} {s s' : Sto} {yd yd' : Lay} {d d' : Dsk} {m m' : Nat}
theorem Bo.pokes (bo : Bo B W w sb db y yd s d m) (g : Nat) (hf : ¬ both y yd g) (hB : B ≤ g) : ∀ (vs : List Value) (o : Nat), Bo B W (w.setCells g o vs) sb db y yd s d m := by
  intro vs
  induction vs generalizing w with
  | nil => intro o; exact bo
  | cons v vs ih => intro o; exact ih (bo.poke ⟨g, o, none⟩ v hf hB) (o + 1)
end
theorem sz_of {a b c d n : Nat} (h1 : a = b) (h2 : a = c) (h3 : c = d) (h4 : d = n) : b = n := by omega
theorem pageLen {w : World} {db : Nat} {y : Lay} {d : Dsk} (h : IsD w db y d) (i : Nat) (hi : i < d.n) : (d.page i).length = 4096 := by
  unfold Dk.Dsk.page
  rcases hw : d.wait i with _ | l
  · exact h.lastLen i hi
  · exact h.waitLen i l hi hw
theorem info50 (v u : Value) : (Tryz.prog.info? 50).map (·.size) = some (#[v, u] : Array Value).size := by kernel_rfl
set_option maxHeartbeats 16000000 in
theorem storeCrash_walk (a0 : Int) (A1 : Option Addr) (len1 cap1 : Nat) (g1 : Nat → Nat → Value) (A2 : Option Addr) (len2 cap2 : Nat) (l2 : List UInt8) (hl2 : l2.length = len2) (A3 : Option Addr) (len3 cap3 : Nat) (l3 : List Int) (hl3 : l3.length = len3) (W : World) (hw : Tab W)
    (wf0 : (Lit.int .u8 a0).wf = true) {fs1 : Array Field} (hu1 : Tryz.prog.underlying 32 = some (.struct fs1)) (w1 : Structs Tryz.prog W W.heap.size fs1 A1 len1 cap1 g1) (z1 : StrSized Tryz.prog W fs1 A1 len1)
    (w2 : Rd W W.heap.size A2 cap2 l2) (w3 : RdI W W.heap.size A3 cap3 l3) :
    Calls Tryz.prog 4 #[.int .u8 a0, .slice A1 len1 cap1, .slice A2 len2 cap2, .slice A3 len3 cap3] W fun e w' => e = .returned (.bool true) ∧ Below W.heap.size W w' := by
  obtain ⟨f1, ha1⟩ := acts_of hu1 w1 z1
  have hb := bounds_u8 wf0
  obtain ⟨pg, rfl⟩ := Int.eq_ofNat_of_zero_le hb.1
  have hpg : pg < 256 := by omega
  obtain ⟨n, hn, hn4, hn20⟩ := dsk_n17 pg
  have G1 := Lib.hid (fun W' (h : Below W.heap.size W W') => great_one A1 len1 cap1 f1 W' _ (ha1.below h))
  have HA1 := Lib.hid ha1
  have HR2 := Lib.hid w2
  have HR3 := Lib.hid w3
  have HT := Lib.hid hw
  have hc1 : (len1 : Int) ≤ 9223372036854775807 := by have := ha1.1; have := ha1.2.1; unfold maxLen at this; omega
  have hposW := hw.1
  clear w1 z1 w2 w3 wf0 hu1 ha1 hw
  clear hb
  by_cases hg1 : 0 < gr len1 f1
  · go_enter Tryz.func4, Tryz.ntmps4
    go_wp2_with (first | (go_at_call 9; refine (G1.out _ (Below.refl _ _)).mono ?_; rintro e w1 ⟨rfl, n1, rfl⟩))
    go_ret
    exact ⟨rfl, below_drewN (Below.refl _ W) n1⟩
  by_cases h62 : 60 < len2
  · have h62' : (60 : Int) < (len2 : Int) := by omega
    go_enter Tryz.func4, Tryz.ntmps4
    go_wp2_with (first | (go_at_call 9; refine (G1.out _ (Below.refl _ _)).mono ?_; rintro e w1 ⟨rfl, n1, rfl⟩))
    go_ret
    exact ⟨rfl, below_drewN (Below.refl _ W) n1⟩
  have h62' : ¬ (60 : Int) < (len2 : Int) := by omega
  by_cases h60 : 60 < len3
  · have h60' : (60 : Int) < (len3 : Int) := by omega
    go_enter Tryz.func4, Tryz.ntmps4
    go_wp2_with (first | (go_at_call 9; refine (G1.out _ (Below.refl _ _)).mono ?_; rintro e w1 ⟨rfl, n1, rfl⟩))
    go_ret
    exact ⟨rfl, below_drewN (Below.refl _ W) n1⟩
  have h60' : ¬ (60 : Int) < (len3 : Int) := by omega
  obtain ⟨hl1, ht1⟩ := gr_ok hg1
  have T1 := Lib.hid ht1
  clear ht1
  go_enter Tryz.func4, Tryz.ntmps4
  go_wp2_with (first
    | (go_at_call 10; refine (made_any n _ (HT.out.below (B := W.heap.size) (below_drewN (Below.refl _ W) n1) hposW) hn4 (by omega)).mono ?_; rintro e w3 ⟨sb, db, y0, yd, rfl, bo0⟩; have B0 := Lib.hid bo0; clear bo0)
    | (go_at_call 9; refine (G1.out _ (Below.refl _ _)).mono ?_; rintro e w1 ⟨rfl, n1, rfl⟩))
  obtain ⟨V, hV⟩ : ∃ V, V = W.drewN n1 := ⟨_, rfl⟩
  have hVs : V.heap.size = W.heap.size := by rw [hV, show (W.drewN n1).heap = W.heap from (World.drewN_alike W n1).1]
  have hVb : Below W.heap.size W V := by rw [hV]; exact below_drewN (Below.refl _ W) n1
  have B1 := Lib.hid (show Bo W.heap.size V w3 sb db y0 yd (sto0 n) (newD n) 0 from by have := B0.out; rw [← hV, hVs] at this; exact this)
  have HVB := Lib.hid hVb
  clear B0 hV hVb hVs
  have Q0 := Lib.hid (quiet_new n hn4 (by omega))
  obtain ⟨s0, hs0⟩ : ∃ s0, s0 = sto0 n := ⟨_, rfl⟩
  obtain ⟨d0, hd0⟩ : ∃ d0, d0 = newD n := ⟨_, rfl⟩
  have I0 := Lib.hid (show s0.us.length ≤ 0 ∧ s0.stamp ≤ 0 ∧ d0.n = n ∧ s0.cur = Vw.base s0.kept from by rw [hs0, hd0]; exact ⟨Nat.le_refl _, Nat.le_refl _, rfl, rfl⟩)
  rw [← hs0, ← hd0] at B1 Q0
  clear hs0 hd0 hg1 h62' h62 h60' h60 hn hpg
  refine (shot_any B1.out Q0.out.gone n (by omega) (fun p _ hp => Q0.out.reads p hp) (rdOf_len Q0.out.good)).mono ?_
  rintro e w5 ⟨b5, rfl, m5, h5, bl5⟩
  have hb5 := bl5
  have S5 := Lib.hid (Sh.made (F := both y0 yd) (r := (s0.cur.now.root : Int)) m5 (fun j h => by have := B1.out.footlt j h; have := hb5.size; omega) (B1.out.fresh h5))
  have B5 := Lib.hid (B1.out.keep (w' := w5.alloc (.cells #[.int .i64 (s0.cur.now.root : Int), .map (some b5)] 50)) (bl5.alloc bl5.size _))
  have HGL := Lib.hid (show W.heap.size ≤ w5.heap.size from Nat.le_trans B1.out.base bl5.size)
  clear m5 h5 bl5 hb5
  go_wp2_with (fail)
  obtain ⟨gl, hgl⟩ : ∃ gl, gl = w5.heap.size := ⟨_, rfl⟩
  rw [← hgl] at S5 HGL ⊢
  obtain ⟨X5, hX5⟩ : ∃ X5, X5 = w5.alloc (.cells #[.int .i64 (s0.cur.now.root : Int), .map (some b5)] 50) := ⟨_, rfl⟩
  rw [← hX5] at S5 B5 ⊢
  have J0 := Lib.hid (show CI W.heap.size V X5 db gl n 0 0 sb y0 yd s0 d0 b5 from
    { bo := B5.out, q := Q0.out, us := I0.out.1, st := I0.out.2.1, sz := I0.out.2.2.1, sh := by have h1 := S5.out; rw [shotV_kept I0.out.2.2.2, I0.out.2.2.2] at h1; exact h1, c := Nat.le_refl _ })
  clear hgl hX5 S5 B5 B1 Q0 I0
  go_loopw [11, 14, 15] (fun sv cv iv wr => ∃ (k c sb : Nat) (y : SLay) (yd : Lay) (s : Sto) (d : Dsk) (b : Nat), k ≤ len1 ∧ sv = pt sb ∧ cv = .int .i64 c ∧ iv = .int .i64 k ∧ Hid (CI W.heap.size V wr db gl n k c sb y yd s d b)) (fun _ _ iv _ => len1 - (intOf iv).toNat)
  case atStart => exact ⟨0, 0, sb, y0, yd, s0, d0, b5, Nat.zero_le _, rfl, rfl, rfl, J0⟩
  case round =>
    clear J0
    obtain ⟨k, c, sb, y, yd, s, d, b, hk, rfl, rfl, rfl, HC⟩ := hrel
    have hbw : Below W.heap.size W wr := HVB.out.trans HC.out.bo.st.bel
    have HBW := Lib.hid hbw
    clear hbw
    by_cases hlt : k < len1
    · obtain ⟨bA, oA, rfl, hblt, hc⟩ := (HA1.out.below HBW.out).2.2 (by omega)
      have q0 := (hc k hlt).c0
      have q1 := (hc k hlt).c1
      have q2 := (hc k hlt).c2
      have q3 := (hc k hlt).c3
      have hlt' : (k : Int) < (len1 : Int) := by omega
      by_cases h5 : (f1 k).dw % 9 = 5
      · have h5' : ((f1 k).dw : Int) % 9 = 5 := by omega
        clear hc q1 q2 q3 h5
        go_wp2_with (fail)
        clear q0 h5'
        refine (shot_any HC.out.bo HC.out.q.gone n (by omega) (fun p _ hp => HC.out.q.reads p hp) (rdOf_len HC.out.q.good)).mono ?_
        rintro e w5 ⟨b5, rfl, m5, h5, bl5⟩
        have hb5 := bl5
        obtain ⟨X5, hX5⟩ : ∃ X5, X5 = w5.alloc (.cells #[.int .i64 (s.cur.now.root : Int), .map (some b5)] 50) := ⟨_, rfl⟩
        have hbx : Below wr.heap.size wr X5 := by rw [hX5]; exact bl5.alloc bl5.size _
        have N5 := Lib.hid (show Sh X5 (both y yd) w5.heap.size b5 (s.cur.now.root : Int) (shotV s d n) from hX5 ▸ Sh.made (F := both y yd) (r := (s.cur.now.root : Int)) m5 (fun j h => by have := HC.out.bo.footlt j h; have := hb5.size; omega) (HC.out.bo.fresh h5))
        have S5 := Lib.hid (HC.out.sh.below hbx)
        have B5 := Lib.hid (HC.out.bo.keep hbx)
        have HNE := Lib.hid (show b5 ≠ gl from by have := HC.out.sh.lt; omega)
        have HBX := Lib.hid (HBW.out.trans (hbx.mono HBW.out.size))
        clear m5 h5 bl5 hb5 hbx
        by_cases hcl : c < len2
        · have hcl' : (c : Int) < (len2 : Int) := by omega
          obtain ⟨bF, oF, rfl, hFb, hFc⟩ := (HR2.out.below HBX.out).2.2.2 (by omega)
          have qF := hFc c (by omega)
          clear hFc
          obtain ⟨x, hx⟩ : ∃ x : Nat, x = (l2[c]'(by omega)).toNat := ⟨_, rfl⟩
          rw [← hx] at qF
          have hx256 : x < 256 := by rw [hx]; exact UInt8.toNat_lt _
          rw [hX5] at qF
          clear hx
          by_cases hx30 : x < 30
          · have hx30' : (x : Int) < 30 := by omega
            rw [hX5] at B5
            go_wp2_with (first
              | (go_at_call 33; refine (B5.out.st.fuse (x : Int) (by omega)).mono ?_; rintro e w6 ⟨rfl, st6, k6⟩; have ST6 := Lib.hid (And.intro st6 k6); clear st6 k6))
            rw [← hX5] at B5
            obtain ⟨d1, hd1⟩ : ∃ d1, d1 = d.fuseTo (x : Int) := ⟨_, rfl⟩
            have F6 := Lib.hid (show Fus d d1 from hd1 ▸ Fus.to d _)
            have hof := B5.out.ofSt (ST6.out.1) (Fus.to d _).n (Nat.le_refl _) (hX5 ▸ ST6.out.2)
            rw [← hd1] at hof
            have B6 := Lib.hid hof.1
            have S6 := Lib.hid (S5.out.kf hof.2)
            have N6 := Lib.hid (N5.out.kf hof.2)
            have HB6 := Lib.hid (show Below W.heap.size W w6 from HVB.out.trans hof.1.st.bel)
            obtain ⟨g5, hg5⟩ : ∃ g5, g5 = w5.heap.size := ⟨_, rfl⟩
            rw [← hg5] at N6 ⊢
            clear hof hd1 ST6 B5 S5 N5 qF hx30 hx30' hX5 hg5
            have hpw := pow_commit HC.out.q F6.out (fun i hi => pageLen HC.out.bo.st.is i hi) (by have := HC.out.st; omega) n
            have CM := Lib.hid (Commit_any B6.out (by omega))
            have hcs : wrap64 ((c : Int) + 1) = ((c + 1 : Nat) : Int) := by have := HC.out.c; unfold wrap64; omega
            rcases hpw with HW | HW
            · rw [HW.ans] at CM
              have HW := Lib.hid HW
              obtain ⟨s2, hs2⟩ : ∃ s2, s2 = stoC s d1 := ⟨_, rfl⟩
              obtain ⟨d2, hd2⟩ : ∃ d2, d2 = diskC s d1 := ⟨_, rfl⟩
              have W2 := Lib.hid (show Quiet s2 (d2.fuseTo (-1)) ∧ keptV s2.kept (d2.fuseTo (-1)) n = shotV s d n ∧ s2.kept.root = s.cur.now.root ∧ s2.us = [] ∧ s2.stamp ≤ s.stamp + 1 ∧ s2.n = s.n from by rw [hs2, hd2]; exact ⟨HW.out.quiet, HW.out.pages, HW.out.root, HW.out.us, HW.out.stamp, HW.out.sz⟩)
              rw [← hs2, ← hd2] at CM
              clear hs2 hd2 HW
              go_wp2_with (first
                | (go_at_call 33; refine (B7.out.st.fuse (-1) (by omega)).mono ?_; rintro e w8 ⟨rfl, st8, k8⟩; have o8 := B7.out.ofSt st8 (Fus.to d2 _).n (Nat.le_refl _) k8; have B8 := Lib.hid o8.1; have u8 := S7.out.kf o8.2; have S8 := Lib.hid u8; have t0 := u8.c0; have t1 := u8.c1; have z0 := u8.f0; have z1 := u8.f1; have n8 := N7.out.kf o8.2; have N8 := Lib.hid n8; have p0 := n8.c0; have p1 := n8.c1; clear o8 n8 u8 st8 k8)
                | (go_at_call 23; refine CM.out.mono ?_; rintro e w7 ⟨rfl, y7, yd7, b7, k7⟩; have B7 := Lib.hid b7; have S7 := Lib.hid (S6.out.kf k7); have N7 := Lib.hid (N6.out.kf k7); clear b7 k7))
              go_roundw
              case rel =>
                refine ⟨k + 1, c + 1, sb, y7, yd7, s2, d2.fuseTo (-1), b5, by omega, rfl, by go_num, by go_num, Lib.hid ?_⟩
                show CI W.heap.size V (w8.setCells gl 0 [.int .i64 (s.cur.now.root : Int), .map (some b5)]) db gl n (k + 1) (c + 1) sb y7 yd7 s2 (d2.fuseTo (-1)) b5
                exact HC.out.next (B8.out.pokes gl S8.out.fg HGL.out _ 0) (Nat.le_refl _) W2.out.1 W2.out.2.2.2.1 W2.out.2.2.2.2.1
                  (sz_of W2.out.1.nn W2.out.2.2.2.2.2 HC.out.q.nn HC.out.sz) (by rw [W2.out.2.1, W2.out.2.2.1]; exact S8.out.set N8.out HNE.out)
              case measure => simp [intOf]; omega
            · rw [HW.ans] at CM
              have HW := Lib.hid HW
              obtain ⟨s2, hs2⟩ : ∃ s2, s2 = stoC s d1 := ⟨_, rfl⟩
              obtain ⟨d2, hd2⟩ : ∃ d2, d2 = diskC s d1 := ⟨_, rfl⟩
              have W2 := Lib.hid (show s2.dead = true ∧ d2.dead = true ∧ d2.n = d.n ∧ (Dk.Good d2 → ∀ fs, Came s d (d2.restart fs) n) from by rw [hs2, hd2]; exact ⟨HW.out.sd, HW.out.dead, HW.out.sz, HW.out.came⟩)
              rw [← hs2, ← hd2] at CM
              clear hs2 hd2 HW
              have GG : gone s2 d2 = true := by unfold gone; rw [W2.out.1]; rfl
              have DS := Lib.hid (show ∀ (w : World) (y : SLay) (yd : Lay), IsS w sb y db s2 → IsD w db yd d2 → Calls Tryz.prog 29 #[pt sb] w (fun e w' => e = .returned (.bool true) ∧ w' = w) from fun w y yd h hd => by have := sdead_any h hd; rw [GG] at this; exact this)
              have DE := Lib.hid (show ∀ (w : World) (yd : Lay), IsD w db yd d2 → Calls Tryz.prog 34 #[ptr db] w (fun e w' => e = .returned (.bool true) ∧ w' = w) from fun w yd hd => by have := Dk.dead_any hd; rw [W2.out.2.1] at this; exact this)
              clear GG
              go_wp2_with (first
                | (go_at_call 34; refine (DE.out _ _ B7.out.st.is).mono ?_; rintro e w9 ⟨rfl, hw9⟩; obtain rfl := hw9.symm)
                | (go_at_call 29; refine (DS.out _ _ _ B7.out.is B7.out.st.is).mono ?_; rintro e w8 ⟨rfl, hw8⟩; obtain rfl := hw8.symm)
                | (go_at_call 23; refine CM.out.mono ?_; rintro e w7 ⟨rfl, y7, yd7, b7, k7⟩; have B7 := Lib.hid b7; have S7 := Lib.hid (S6.out.kf k7); have N7 := Lib.hid (N6.out.kf k7); clear b7 k7))
              have HB7 := Lib.hid (show Below W.heap.size W _ from HVB.out.trans B7.out.st.bel)
              refine (B7.out.st.restart (by omega) A3 cap3 len3 l3 ((HR3.out.below HB7.out).more HB7.out.size) hl3 (fun hp a ha hf => by
                have h1 := B7.out.st.low _ hf
                obtain ⟨b3, o3, e3, hlt3, _⟩ := HR3.out.2.2.2 hp
                rw [ha] at e3
                injection e3 with e3
                subst e3
                simp only at h1
                omega)).mono ?_
              rintro e w9 ⟨rfl, yd9, st9, k9⟩
              have CA := Lib.hid (W2.out.2.2.2 B7.out.st.good l3)
              obtain ⟨d3, hd3⟩ : ∃ d3, d3 = d2.restart l3 := ⟨_, rfl⟩
              rw [← hd3] at CA st9
              have hdd : d3.dead = false := CA.out.quiet.liv.dead
              have hn3 : d3.n = n := by rw [hd3, restart_n]; have h2 := W2.out.2.2.1; have h4 := HC.out.sz; omega
              have hst3 : (lkTo d3 d3.n 2).stamp ≤ s.stamp + 1 := CA.out.stamp
              have OP := Lib.hid (open_any st9 HC.out.bo.tabW HC.out.bo.posB hdd (by omega) (by omega) (by have := HC.out.st; omega))
              have S9 := Lib.hid ((S7.out.weak (G := yd7.foot) (fun _ h => .inr h)).kf (Kf.ofKp k9))
              have N9 := Lib.hid ((N7.out.weak (G := yd7.foot) (fun _ h => .inr h)).kf (Kf.ofKp k9))
              have RT := Lib.hid (show ((opened d3).cur.now.root : Int) = ((opened d3).kept.root : Int) ∧ shotV (opened d3) d3 n = keptV (opened d3).kept d3 n ∧ (opened d3).stamp ≤ s.stamp + 1 ∧ d3.n = n ∧ (opened d3).us = [] from ⟨rfl, shotV_kept rfl _ _, hst3, hn3, rfl⟩)
              clear hdd hn3 hst3 hd3 st9 k9
              go_wp2_with (first
                | (go_at_call 27; refine OP.out.mono ?_; rintro e w10 ⟨sb2, y10, rfl, b10, k10⟩; have B10 := Lib.hid b10; have S10 := Lib.hid (S9.out.kf k10); have N10 := Lib.hid (N9.out.kf k10); clear b10 k10))
              refine (shot_any B10.out CA.out.quiet.gone n (by omega) (fun p _ hp => CA.out.quiet.reads p hp) (rdOf_len CA.out.quiet.good)).mono ?_
              rintro e w11 ⟨b11, rfl, m11, h11, bl11⟩
              obtain ⟨s3, hs3⟩ : ∃ s3, s3 = opened d3 := ⟨_, rfl⟩
              rw [← hs3] at B10 RT m11 ⊢
              have Q3 := Lib.hid (show Quiet s3 d3 from hs3 ▸ CA.out.quiet)
              have hwh := CA.out.what
              rw [← hs3] at hwh
              have hb11 := bl11
              obtain ⟨X11, hX11⟩ : ∃ X, X = w11.alloc (.cells #[.int .i64 (s3.cur.now.root : Int), .map (some b11)] 50) := ⟨_, rfl⟩
              have hbx : Below w10.heap.size w10 X11 := by rw [hX11]; exact bl11.alloc bl11.size _
              have M11 := Lib.hid (show Sh X11 (both y10 yd9) w11.heap.size b11 (s3.cur.now.root : Int) (shotV s3 d3 n) from hX11 ▸ Sh.made (F := both y10 yd9) (r := (s3.cur.now.root : Int)) m11 (fun j h => by have := B10.out.footlt j h; have := hb11.size; omega) (B10.out.fresh h11))
              have S11 := Lib.hid (S10.out.below hbx)
              have N11 := Lib.hid (N10.out.below hbx)
              have B11 := Lib.hid (B10.out.keep hbx)
              have HN2 := Lib.hid (show b11 ≠ gl from by have := S10.out.lt; omega)
              have p0 := hX11 ▸ S11.out.c0
              have p1 := hX11 ▸ S11.out.c1
              clear m11 h11 bl11 hb11 hbx hs3 CA S10 N10 B10 S9 N9 B7 S7 N7
              go_wp2_with (fail)
              clear p0 p1
              rw [← hX11]
              obtain ⟨g11, hg11⟩ : ∃ g11, g11 = w11.heap.size := ⟨_, rfl⟩
              rw [← hg11] at M11 ⊢
              clear hX11 hg11
              refine (equal_any _ _ _ b11 b 5000 5000 _ _ M11.out.m S11.out.m).mono ?_
              rintro e w12 ⟨r12, rfl, hr12, bl12⟩
              have S12 := Lib.hid (S11.out.below bl12)
              have M12 := Lib.hid (M11.out.below bl12)
              have N12 := Lib.hid (N11.out.below bl12)
              have B12 := Lib.hid (B11.out.keep bl12)
              clear bl12
              rcases hwh with ⟨hv, hr⟩ | ⟨hv, hr⟩
              · obtain rfl := hr12 (by rw [RT.out.1, hr]) (by rw [RT.out.2.1]; exact hv)
                clear hr12 hv hr
                have t0 := S12.out.c0
                have t1 := S12.out.c1
                have z0 := S12.out.f0
                have z1 := S12.out.f1
                have c0 := M12.out.c0
                have c1 := M12.out.c1
                go_wp2_with (fail)
                go_still_tail 3, (by kernel_rfl)
                change wpList _ _ _ _ _ (World.drew _)
                go_wp2
                go_roundw
                case rel =>
                  refine ⟨k + 1, c + 1, sb2, y10, yd9, s3, d3, b11, by omega, rfl, by go_num, by go_num, Lib.hid ?_⟩
                  show CI W.heap.size V (w12.setCells gl 0 [.int .i64 (s3.cur.now.root : Int), .map (some b11)]).drew db gl n (k + 1) (c + 1) sb2 y10 yd9 s3 d3 b11
                  have hset := (S12.out.set M12.out HN2.out).below (Below.refl _ _).drew
                  exact HC.out.next ((B12.out.pokes gl S12.out.fg HGL.out _ 0).keep (Below.refl _ _).drew) (Nat.le_refl _) Q3.out RT.out.2.2.2.2 RT.out.2.2.1 RT.out.2.2.2.1 (by rw [← RT.out.2.1, ← RT.out.1]; exact hset)
                case measure => simp [intOf]; omega
              · rcases r12 with _ | _
                · clear hr12
                  have u0 := N12.out.c0
                  have u1 := N12.out.c1
                  have c0 := M12.out.c0
                  have c1 := M12.out.c1
                  have HH := Lib.hid (And.intro hv hr)
                  clear hv hr
                  go_wp2_with (fail)
                  refine (equal_any _ _ _ b11 b5 5000 5000 _ _ M12.out.m N12.out.m).mono ?_
                  rintro e w13 ⟨r13, rfl, hr13, bl13⟩
                  obtain rfl := hr13 (by rw [RT.out.1, HH.out.2]) (by rw [RT.out.2.1]; exact HH.out.1)
                  have S13 := Lib.hid (S12.out.below bl13)
                  have M13 := Lib.hid (M12.out.below bl13)
                  have B13 := Lib.hid (B12.out.keep bl13)
                  clear hr13 bl13 u0 u1 c0 c1
                  have t0 := S13.out.c0
                  have t1 := S13.out.c1
                  have z0 := S13.out.f0
                  have z1 := S13.out.f1
                  have c0 := M13.out.c0
                  have c1 := M13.out.c1
                  go_wp2_with (fail)
                  go_still_tail 3, (by kernel_rfl)
                  change wpList _ _ _ _ _ (World.drew _)
                  go_wp2
                  go_roundw
                  case rel =>
                    refine ⟨k + 1, c + 1, sb2, y10, yd9, s3, d3, b11, by omega, rfl, by go_num, by go_num, Lib.hid ?_⟩
                    show CI W.heap.size V (w13.setCells gl 0 [.int .i64 (s3.cur.now.root : Int), .map (some b11)]).drew db gl n (k + 1) (c + 1) sb2 y10 yd9 s3 d3 b11
                    have hset := (S13.out.set M13.out HN2.out).below (Below.refl _ _).drew
                    exact HC.out.next ((B13.out.pokes gl S13.out.fg HGL.out _ 0).keep (Below.refl _ _).drew) (Nat.le_refl _) Q3.out RT.out.2.2.2.2 RT.out.2.2.1 RT.out.2.2.2.1 (by rw [← RT.out.2.1, ← RT.out.1]; exact hset)
                  case measure => simp [intOf]; omega
                · clear hr12 hv hr
                  have t0 := S12.out.c0
                  have t1 := S12.out.c1
                  have z0 := S12.out.f0
                  have z1 := S12.out.f1
                  have c0 := M12.out.c0
                  have c1 := M12.out.c1
                  go_wp2_with (fail)
                  go_still_tail 3, (by kernel_rfl)
                  change wpList _ _ _ _ _ (World.drew _)
                  go_wp2
                  go_roundw
                  case rel =>
                    refine ⟨k + 1, c + 1, sb2, y10, yd9, s3, d3, b11, by omega, rfl, by go_num, by go_num, Lib.hid ?_⟩
                    show CI W.heap.size V (w12.setCells gl 0 [.int .i64 (s3.cur.now.root : Int), .map (some b11)]).drew db gl n (k + 1) (c + 1) sb2 y10 yd9 s3 d3 b11
                    have hset := (S12.out.set M12.out HN2.out).below (Below.refl _ _).drew
                    exact HC.out.next ((B12.out.pokes gl S12.out.fg HGL.out _ 0).keep (Below.refl _ _).drew) (Nat.le_refl _) Q3.out RT.out.2.2.2.2 RT.out.2.2.1 RT.out.2.2.2.1 (by rw [← RT.out.2.1, ← RT.out.1]; exact hset)
                  case measure => simp [intOf]; omega
          · have hx30' : ¬ (x : Int) < 30 := by omega
            go_wp2_with (fail)
            have F6 := Lib.hid (Fus.refl d)
            rw [← hX5]
            have HB6 := HBX
            have B6 := B5
            have S6 := S5
            obtain ⟨g5, hg5⟩ : ∃ g5, g5 = w5.heap.size := ⟨_, rfl⟩
            rw [← hg5] at N5 ⊢
            have N6 := N5
            clear B5 S5 N5 qF hx30 hx30' hX5 hg5
            have hpw := pow_commit HC.out.q F6.out (fun i hi => pageLen HC.out.bo.st.is i hi) (by have := HC.out.st; omega) n
            have CM := Lib.hid (Commit_any B6.out (by omega))
            have hcs : wrap64 ((c : Int) + 1) = ((c + 1 : Nat) : Int) := by have := HC.out.c; unfold wrap64; omega
            rcases hpw with HW | HW
            · rw [HW.ans] at CM
              have HW := Lib.hid HW
              obtain ⟨s2, hs2⟩ : ∃ s2, s2 = stoC s d := ⟨_, rfl⟩
              obtain ⟨d2, hd2⟩ : ∃ d2, d2 = diskC s d := ⟨_, rfl⟩
              have W2 := Lib.hid (show Quiet s2 (d2.fuseTo (-1)) ∧ keptV s2.kept (d2.fuseTo (-1)) n = shotV s d n ∧ s2.kept.root = s.cur.now.root ∧ s2.us = [] ∧ s2.stamp ≤ s.stamp + 1 ∧ s2.n = s.n from by rw [hs2, hd2]; exact ⟨HW.out.quiet, HW.out.pages, HW.out.root, HW.out.us, HW.out.stamp, HW.out.sz⟩)
              rw [← hs2, ← hd2] at CM
              clear hs2 hd2 HW
              go_wp2_with (first
                | (go_at_call 33; refine (B7.out.st.fuse (-1) (by omega)).mono ?_; rintro e w8 ⟨rfl, st8, k8⟩; have o8 := B7.out.ofSt st8 (Fus.to d2 _).n (Nat.le_refl _) k8; have B8 := Lib.hid o8.1; have u8 := S7.out.kf o8.2; have S8 := Lib.hid u8; have t0 := u8.c0; have t1 := u8.c1; have z0 := u8.f0; have z1 := u8.f1; have n8 := N7.out.kf o8.2; have N8 := Lib.hid n8; have p0 := n8.c0; have p1 := n8.c1; clear o8 n8 u8 st8 k8)
                | (go_at_call 23; refine CM.out.mono ?_; rintro e w7 ⟨rfl, y7, yd7, b7, k7⟩; have B7 := Lib.hid b7; have S7 := Lib.hid (S6.out.kf k7); have N7 := Lib.hid (N6.out.kf k7); clear b7 k7))
              go_roundw
              case rel =>
                refine ⟨k + 1, c + 1, sb, y7, yd7, s2, d2.fuseTo (-1), b5, by omega, rfl, by go_num, by go_num, Lib.hid ?_⟩
                show CI W.heap.size V (w8.setCells gl 0 [.int .i64 (s.cur.now.root : Int), .map (some b5)]) db gl n (k + 1) (c + 1) sb y7 yd7 s2 (d2.fuseTo (-1)) b5
                exact HC.out.next (B8.out.pokes gl S8.out.fg HGL.out _ 0) (Nat.le_refl _) W2.out.1 W2.out.2.2.2.1 W2.out.2.2.2.2.1
                  (sz_of W2.out.1.nn W2.out.2.2.2.2.2 HC.out.q.nn HC.out.sz) (by rw [W2.out.2.1, W2.out.2.2.1]; exact S8.out.set N8.out HNE.out)
              case measure => simp [intOf]; omega
            · rw [HW.ans] at CM
              have HW := Lib.hid HW
              obtain ⟨s2, hs2⟩ : ∃ s2, s2 = stoC s d := ⟨_, rfl⟩
              obtain ⟨d2, hd2⟩ : ∃ d2, d2 = diskC s d := ⟨_, rfl⟩
              have W2 := Lib.hid (show s2.dead = true ∧ d2.dead = true ∧ d2.n = d.n ∧ (Dk.Good d2 → ∀ fs, Came s d (d2.restart fs) n) from by rw [hs2, hd2]; exact ⟨HW.out.sd, HW.out.dead, HW.out.sz, HW.out.came⟩)
              rw [← hs2, ← hd2] at CM
              clear hs2 hd2 HW
              have GG : gone s2 d2 = true := by unfold gone; rw [W2.out.1]; rfl
              have DS := Lib.hid (show ∀ (w : World) (y : SLay) (yd : Lay), IsS w sb y db s2 → IsD w db yd d2 → Calls Tryz.prog 29 #[pt sb] w (fun e w' => e = .returned (.bool true) ∧ w' = w) from fun w y yd h hd => by have := sdead_any h hd; rw [GG] at this; exact this)
              have DE := Lib.hid (show ∀ (w : World) (yd : Lay), IsD w db yd d2 → Calls Tryz.prog 34 #[ptr db] w (fun e w' => e = .returned (.bool true) ∧ w' = w) from fun w yd hd => by have := Dk.dead_any hd; rw [W2.out.2.1] at this; exact this)
              clear GG
              go_wp2_with (first
                | (go_at_call 34; refine (DE.out _ _ B7.out.st.is).mono ?_; rintro e w9 ⟨rfl, hw9⟩; obtain rfl := hw9.symm)
                | (go_at_call 29; refine (DS.out _ _ _ B7.out.is B7.out.st.is).mono ?_; rintro e w8 ⟨rfl, hw8⟩; obtain rfl := hw8.symm)
                | (go_at_call 23; refine CM.out.mono ?_; rintro e w7 ⟨rfl, y7, yd7, b7, k7⟩; have B7 := Lib.hid b7; have S7 := Lib.hid (S6.out.kf k7); have N7 := Lib.hid (N6.out.kf k7); clear b7 k7))
              have HB7 := Lib.hid (show Below W.heap.size W _ from HVB.out.trans B7.out.st.bel)
              refine (B7.out.st.restart (by omega) A3 cap3 len3 l3 ((HR3.out.below HB7.out).more HB7.out.size) hl3 (fun hp a ha hf => by
                have h1 := B7.out.st.low _ hf
                obtain ⟨b3, o3, e3, hlt3, _⟩ := HR3.out.2.2.2 hp
                rw [ha] at e3
                injection e3 with e3
                subst e3
                simp only at h1
                omega)).mono ?_
              rintro e w9 ⟨rfl, yd9, st9, k9⟩
              have CA := Lib.hid (W2.out.2.2.2 B7.out.st.good l3)
              obtain ⟨d3, hd3⟩ : ∃ d3, d3 = d2.restart l3 := ⟨_, rfl⟩
              rw [← hd3] at CA st9
              have hdd : d3.dead = false := CA.out.quiet.liv.dead
              have hn3 : d3.n = n := by rw [hd3, restart_n]; have h2 := W2.out.2.2.1; have h4 := HC.out.sz; omega
              have hst3 : (lkTo d3 d3.n 2).stamp ≤ s.stamp + 1 := CA.out.stamp
              have OP := Lib.hid (open_any st9 HC.out.bo.tabW HC.out.bo.posB hdd (by omega) (by omega) (by have := HC.out.st; omega))
              have S9 := Lib.hid ((S7.out.weak (G := yd7.foot) (fun _ h => .inr h)).kf (Kf.ofKp k9))
              have N9 := Lib.hid ((N7.out.weak (G := yd7.foot) (fun _ h => .inr h)).kf (Kf.ofKp k9))
              have RT := Lib.hid (show ((opened d3).cur.now.root : Int) = ((opened d3).kept.root : Int) ∧ shotV (opened d3) d3 n = keptV (opened d3).kept d3 n ∧ (opened d3).stamp ≤ s.stamp + 1 ∧ d3.n = n ∧ (opened d3).us = [] from ⟨rfl, shotV_kept rfl _ _, hst3, hn3, rfl⟩)
              clear hdd hn3 hst3 hd3 st9 k9
              go_wp2_with (first
                | (go_at_call 27; refine OP.out.mono ?_; rintro e w10 ⟨sb2, y10, rfl, b10, k10⟩; have B10 := Lib.hid b10; have S10 := Lib.hid (S9.out.kf k10); have N10 := Lib.hid (N9.out.kf k10); clear b10 k10))
              refine (shot_any B10.out CA.out.quiet.gone n (by omega) (fun p _ hp => CA.out.quiet.reads p hp) (rdOf_len CA.out.quiet.good)).mono ?_
              rintro e w11 ⟨b11, rfl, m11, h11, bl11⟩
              obtain ⟨s3, hs3⟩ : ∃ s3, s3 = opened d3 := ⟨_, rfl⟩
              rw [← hs3] at B10 RT m11 ⊢
              have Q3 := Lib.hid (show Quiet s3 d3 from hs3 ▸ CA.out.quiet)
              have hwh := CA.out.what
              rw [← hs3] at hwh
              have hb11 := bl11
              obtain ⟨X11, hX11⟩ : ∃ X, X = w11.alloc (.cells #[.int .i64 (s3.cur.now.root : Int), .map (some b11)] 50) := ⟨_, rfl⟩
              have hbx : Below w10.heap.size w10 X11 := by rw [hX11]; exact bl11.alloc bl11.size _
              have M11 := Lib.hid (show Sh X11 (both y10 yd9) w11.heap.size b11 (s3.cur.now.root : Int) (shotV s3 d3 n) from hX11 ▸ Sh.made (F := both y10 yd9) (r := (s3.cur.now.root : Int)) m11 (fun j h => by have := B10.out.footlt j h; have := hb11.size; omega) (B10.out.fresh h11))
              have S11 := Lib.hid (S10.out.below hbx)
              have N11 := Lib.hid (N10.out.below hbx)
              have B11 := Lib.hid (B10.out.keep hbx)
              have HN2 := Lib.hid (show b11 ≠ gl from by have := S10.out.lt; omega)
              have p0 := hX11 ▸ S11.out.c0
              have p1 := hX11 ▸ S11.out.c1
              clear m11 h11 bl11 hb11 hbx hs3 CA S10 N10 B10 S9 N9 B7 S7 N7
              go_wp2_with (fail)
              clear p0 p1
              rw [← hX11]
              obtain ⟨g11, hg11⟩ : ∃ g11, g11 = w11.heap.size := ⟨_, rfl⟩
              rw [← hg11] at M11 ⊢
              clear hX11 hg11
              refine (equal_any _ _ _ b11 b 5000 5000 _ _ M11.out.m S11.out.m).mono ?_
              rintro e w12 ⟨r12, rfl, hr12, bl12⟩
              have S12 := Lib.hid (S11.out.below bl12)
              have M12 := Lib.hid (M11.out.below bl12)
              have N12 := Lib.hid (N11.out.below bl12)
              have B12 := Lib.hid (B11.out.keep bl12)
              clear bl12
              rcases hwh with ⟨hv, hr⟩ | ⟨hv, hr⟩
              · obtain rfl := hr12 (by rw [RT.out.1, hr]) (by rw [RT.out.2.1]; exact hv)
                clear hr12 hv hr
                have t0 := S12.out.c0
                have t1 := S12.out.c1
                have z0 := S12.out.f0
                have z1 := S12.out.f1
                have c0 := M12.out.c0
                have c1 := M12.out.c1
                go_wp2_with (fail)
                go_still_tail 3, (by kernel_rfl)
                change wpList _ _ _ _ _ (World.drew _)
                go_wp2
                go_roundw
                case rel =>
                  refine ⟨k + 1, c + 1, sb2, y10, yd9, s3, d3, b11, by omega, rfl, by go_num, by go_num, Lib.hid ?_⟩
                  show CI W.heap.size V (w12.setCells gl 0 [.int .i64 (s3.cur.now.root : Int), .map (some b11)]).drew db gl n (k + 1) (c + 1) sb2 y10 yd9 s3 d3 b11
                  have hset := (S12.out.set M12.out HN2.out).below (Below.refl _ _).drew
                  exact HC.out.next ((B12.out.pokes gl S12.out.fg HGL.out _ 0).keep (Below.refl _ _).drew) (Nat.le_refl _) Q3.out RT.out.2.2.2.2 RT.out.2.2.1 RT.out.2.2.2.1 (by rw [← RT.out.2.1, ← RT.out.1]; exact hset)
                case measure => simp [intOf]; omega
              · rcases r12 with _ | _
                · clear hr12
                  have u0 := N12.out.c0
                  have u1 := N12.out.c1
                  have c0 := M12.out.c0
                  have c1 := M12.out.c1
                  have HH := Lib.hid (And.intro hv hr)
                  clear hv hr
                  go_wp2_with (fail)
                  refine (equal_any _ _ _ b11 b5 5000 5000 _ _ M12.out.m N12.out.m).mono ?_
                  rintro e w13 ⟨r13, rfl, hr13, bl13⟩
                  obtain rfl := hr13 (by rw [RT.out.1, HH.out.2]) (by rw [RT.out.2.1]; exact HH.out.1)
                  have S13 := Lib.hid (S12.out.below bl13)
                  have M13 := Lib.hid (M12.out.below bl13)
                  have B13 := Lib.hid (B12.out.keep bl13)
                  clear hr13 bl13 u0 u1 c0 c1
                  have t0 := S13.out.c0
                  have t1 := S13.out.c1
                  have z0 := S13.out.f0
                  have z1 := S13.out.f1
                  have c0 := M13.out.c0
                  have c1 := M13.out.c1
                  go_wp2_with (fail)
                  go_still_tail 3, (by kernel_rfl)
                  change wpList _ _ _ _ _ (World.drew _)
                  go_wp2
                  go_roundw
                  case rel =>
                    refine ⟨k + 1, c + 1, sb2, y10, yd9, s3, d3, b11, by omega, rfl, by go_num, by go_num, Lib.hid ?_⟩
                    show CI W.heap.size V (w13.setCells gl 0 [.int .i64 (s3.cur.now.root : Int), .map (some b11)]).drew db gl n (k + 1) (c + 1) sb2 y10 yd9 s3 d3 b11
                    have hset := (S13.out.set M13.out HN2.out).below (Below.refl _ _).drew
                    exact HC.out.next ((B13.out.pokes gl S13.out.fg HGL.out _ 0).keep (Below.refl _ _).drew) (Nat.le_refl _) Q3.out RT.out.2.2.2.2 RT.out.2.2.1 RT.out.2.2.2.1 (by rw [← RT.out.2.1, ← RT.out.1]; exact hset)
                  case measure => simp [intOf]; omega
                · clear hr12 hv hr
                  have t0 := S12.out.c0
                  have t1 := S12.out.c1
                  have z0 := S12.out.f0
                  have z1 := S12.out.f1
                  have c0 := M12.out.c0
                  have c1 := M12.out.c1
                  go_wp2_with (fail)
                  go_still_tail 3, (by kernel_rfl)
                  change wpList _ _ _ _ _ (World.drew _)
                  go_wp2
                  go_roundw
                  case rel =>
                    refine ⟨k + 1, c + 1, sb2, y10, yd9, s3, d3, b11, by omega, rfl, by go_num, by go_num, Lib.hid ?_⟩
                    show CI W.heap.size V (w12.setCells gl 0 [.int .i64 (s3.cur.now.root : Int), .map (some b11)]).drew db gl n (k + 1) (c + 1) sb2 y10 yd9 s3 d3 b11
                    have hset := (S12.out.set M12.out HN2.out).below (Below.refl _ _).drew
                    exact HC.out.next ((B12.out.pokes gl S12.out.fg HGL.out _ 0).keep (Below.refl _ _).drew) (Nat.le_refl _) Q3.out RT.out.2.2.2.2 RT.out.2.2.1 RT.out.2.2.2.1 (by rw [← RT.out.2.1, ← RT.out.1]; exact hset)
                  case measure => simp [intOf]; omega
        · have hcl' : ¬ (c : Int) < (len2 : Int) := by omega
          go_wp2_with (fail)
          have F6 := Lib.hid (Fus.refl d)
          rw [← hX5]
          have HB6 := HBX
          have B6 := B5
          have S6 := S5
          obtain ⟨g5, hg5⟩ : ∃ g5, g5 = w5.heap.size := ⟨_, rfl⟩
          rw [← hg5] at N5 ⊢
          have N6 := N5
          clear B5 S5 N5 hX5 hg5
          have hpw := pow_commit HC.out.q F6.out (fun i hi => pageLen HC.out.bo.st.is i hi) (by have := HC.out.st; omega) n
          have CM := Lib.hid (Commit_any B6.out (by omega))
          have hcs : wrap64 ((c : Int) + 1) = ((c + 1 : Nat) : Int) := by have := HC.out.c; unfold wrap64; omega
          rcases hpw with HW | HW
          · rw [HW.ans] at CM
            have HW := Lib.hid HW
            obtain ⟨s2, hs2⟩ : ∃ s2, s2 = stoC s d := ⟨_, rfl⟩
            obtain ⟨d2, hd2⟩ : ∃ d2, d2 = diskC s d := ⟨_, rfl⟩
            have W2 := Lib.hid (show Quiet s2 (d2.fuseTo (-1)) ∧ keptV s2.kept (d2.fuseTo (-1)) n = shotV s d n ∧ s2.kept.root = s.cur.now.root ∧ s2.us = [] ∧ s2.stamp ≤ s.stamp + 1 ∧ s2.n = s.n from by rw [hs2, hd2]; exact ⟨HW.out.quiet, HW.out.pages, HW.out.root, HW.out.us, HW.out.stamp, HW.out.sz⟩)
            rw [← hs2, ← hd2] at CM
            clear hs2 hd2 HW
            go_wp2_with (first
              | (go_at_call 33; refine (B7.out.st.fuse (-1) (by omega)).mono ?_; rintro e w8 ⟨rfl, st8, k8⟩; have o8 := B7.out.ofSt st8 (Fus.to d2 _).n (Nat.le_refl _) k8; have B8 := Lib.hid o8.1; have u8 := S7.out.kf o8.2; have S8 := Lib.hid u8; have t0 := u8.c0; have t1 := u8.c1; have z0 := u8.f0; have z1 := u8.f1; have n8 := N7.out.kf o8.2; have N8 := Lib.hid n8; have p0 := n8.c0; have p1 := n8.c1; clear o8 n8 u8 st8 k8)
              | (go_at_call 23; refine CM.out.mono ?_; rintro e w7 ⟨rfl, y7, yd7, b7, k7⟩; have B7 := Lib.hid b7; have S7 := Lib.hid (S6.out.kf k7); have N7 := Lib.hid (N6.out.kf k7); clear b7 k7))
            go_roundw
            case rel =>
              refine ⟨k + 1, c + 1, sb, y7, yd7, s2, d2.fuseTo (-1), b5, by omega, rfl, by go_num, by go_num, Lib.hid ?_⟩
              show CI W.heap.size V (w8.setCells gl 0 [.int .i64 (s.cur.now.root : Int), .map (some b5)]) db gl n (k + 1) (c + 1) sb y7 yd7 s2 (d2.fuseTo (-1)) b5
              exact HC.out.next (B8.out.pokes gl S8.out.fg HGL.out _ 0) (Nat.le_refl _) W2.out.1 W2.out.2.2.2.1 W2.out.2.2.2.2.1
                (sz_of W2.out.1.nn W2.out.2.2.2.2.2 HC.out.q.nn HC.out.sz) (by rw [W2.out.2.1, W2.out.2.2.1]; exact S8.out.set N8.out HNE.out)
            case measure => simp [intOf]; omega
          · rw [HW.ans] at CM
            have HW := Lib.hid HW
            obtain ⟨s2, hs2⟩ : ∃ s2, s2 = stoC s d := ⟨_, rfl⟩
            obtain ⟨d2, hd2⟩ : ∃ d2, d2 = diskC s d := ⟨_, rfl⟩
            have W2 := Lib.hid (show s2.dead = true ∧ d2.dead = true ∧ d2.n = d.n ∧ (Dk.Good d2 → ∀ fs, Came s d (d2.restart fs) n) from by rw [hs2, hd2]; exact ⟨HW.out.sd, HW.out.dead, HW.out.sz, HW.out.came⟩)
            rw [← hs2, ← hd2] at CM
            clear hs2 hd2 HW
            have GG : gone s2 d2 = true := by unfold gone; rw [W2.out.1]; rfl
            have DS := Lib.hid (show ∀ (w : World) (y : SLay) (yd : Lay), IsS w sb y db s2 → IsD w db yd d2 → Calls Tryz.prog 29 #[pt sb] w (fun e w' => e = .returned (.bool true) ∧ w' = w) from fun w y yd h hd => by have := sdead_any h hd; rw [GG] at this; exact this)
            have DE := Lib.hid (show ∀ (w : World) (yd : Lay), IsD w db yd d2 → Calls Tryz.prog 34 #[ptr db] w (fun e w' => e = .returned (.bool true) ∧ w' = w) from fun w yd hd => by have := Dk.dead_any hd; rw [W2.out.2.1] at this; exact this)
            clear GG
            go_wp2_with (first
              | (go_at_call 34; refine (DE.out _ _ B7.out.st.is).mono ?_; rintro e w9 ⟨rfl, hw9⟩; obtain rfl := hw9.symm)
              | (go_at_call 29; refine (DS.out _ _ _ B7.out.is B7.out.st.is).mono ?_; rintro e w8 ⟨rfl, hw8⟩; obtain rfl := hw8.symm)
              | (go_at_call 23; refine CM.out.mono ?_; rintro e w7 ⟨rfl, y7, yd7, b7, k7⟩; have B7 := Lib.hid b7; have S7 := Lib.hid (S6.out.kf k7); have N7 := Lib.hid (N6.out.kf k7); clear b7 k7))
            have HB7 := Lib.hid (show Below W.heap.size W _ from HVB.out.trans B7.out.st.bel)
            refine (B7.out.st.restart (by omega) A3 cap3 len3 l3 ((HR3.out.below HB7.out).more HB7.out.size) hl3 (fun hp a ha hf => by
              have h1 := B7.out.st.low _ hf
              obtain ⟨b3, o3, e3, hlt3, _⟩ := HR3.out.2.2.2 hp
              rw [ha] at e3
              injection e3 with e3
              subst e3
              simp only at h1
              omega)).mono ?_
            rintro e w9 ⟨rfl, yd9, st9, k9⟩
            have CA := Lib.hid (W2.out.2.2.2 B7.out.st.good l3)
            obtain ⟨d3, hd3⟩ : ∃ d3, d3 = d2.restart l3 := ⟨_, rfl⟩
            rw [← hd3] at CA st9
            have hdd : d3.dead = false := CA.out.quiet.liv.dead
            have hn3 : d3.n = n := by rw [hd3, restart_n]; have h2 := W2.out.2.2.1; have h4 := HC.out.sz; omega
            have hst3 : (lkTo d3 d3.n 2).stamp ≤ s.stamp + 1 := CA.out.stamp
            have OP := Lib.hid (open_any st9 HC.out.bo.tabW HC.out.bo.posB hdd (by omega) (by omega) (by have := HC.out.st; omega))
            have S9 := Lib.hid ((S7.out.weak (G := yd7.foot) (fun _ h => .inr h)).kf (Kf.ofKp k9))
            have N9 := Lib.hid ((N7.out.weak (G := yd7.foot) (fun _ h => .inr h)).kf (Kf.ofKp k9))
            have RT := Lib.hid (show ((opened d3).cur.now.root : Int) = ((opened d3).kept.root : Int) ∧ shotV (opened d3) d3 n = keptV (opened d3).kept d3 n ∧ (opened d3).stamp ≤ s.stamp + 1 ∧ d3.n = n ∧ (opened d3).us = [] from ⟨rfl, shotV_kept rfl _ _, hst3, hn3, rfl⟩)
            clear hdd hn3 hst3 hd3 st9 k9
            go_wp2_with (first
              | (go_at_call 27; refine OP.out.mono ?_; rintro e w10 ⟨sb2, y10, rfl, b10, k10⟩; have B10 := Lib.hid b10; have S10 := Lib.hid (S9.out.kf k10); have N10 := Lib.hid (N9.out.kf k10); clear b10 k10))
            refine (shot_any B10.out CA.out.quiet.gone n (by omega) (fun p _ hp => CA.out.quiet.reads p hp) (rdOf_len CA.out.quiet.good)).mono ?_
            rintro e w11 ⟨b11, rfl, m11, h11, bl11⟩
            obtain ⟨s3, hs3⟩ : ∃ s3, s3 = opened d3 := ⟨_, rfl⟩
            rw [← hs3] at B10 RT m11 ⊢
            have Q3 := Lib.hid (show Quiet s3 d3 from hs3 ▸ CA.out.quiet)
            have hwh := CA.out.what
            rw [← hs3] at hwh
            have hb11 := bl11
            obtain ⟨X11, hX11⟩ : ∃ X, X = w11.alloc (.cells #[.int .i64 (s3.cur.now.root : Int), .map (some b11)] 50) := ⟨_, rfl⟩
            have hbx : Below w10.heap.size w10 X11 := by rw [hX11]; exact bl11.alloc bl11.size _
            have M11 := Lib.hid (show Sh X11 (both y10 yd9) w11.heap.size b11 (s3.cur.now.root : Int) (shotV s3 d3 n) from hX11 ▸ Sh.made (F := both y10 yd9) (r := (s3.cur.now.root : Int)) m11 (fun j h => by have := B10.out.footlt j h; have := hb11.size; omega) (B10.out.fresh h11))
            have S11 := Lib.hid (S10.out.below hbx)
            have N11 := Lib.hid (N10.out.below hbx)
            have B11 := Lib.hid (B10.out.keep hbx)
            have HN2 := Lib.hid (show b11 ≠ gl from by have := S10.out.lt; omega)
            have p0 := hX11 ▸ S11.out.c0
            have p1 := hX11 ▸ S11.out.c1
            clear m11 h11 bl11 hb11 hbx hs3 CA S10 N10 B10 S9 N9 B7 S7 N7
            go_wp2_with (fail)
            clear p0 p1
            rw [← hX11]
            obtain ⟨g11, hg11⟩ : ∃ g11, g11 = w11.heap.size := ⟨_, rfl⟩
            rw [← hg11] at M11 ⊢
            clear hX11 hg11
            refine (equal_any _ _ _ b11 b 5000 5000 _ _ M11.out.m S11.out.m).mono ?_
            rintro e w12 ⟨r12, rfl, hr12, bl12⟩
            have S12 := Lib.hid (S11.out.below bl12)
            have M12 := Lib.hid (M11.out.below bl12)
            have N12 := Lib.hid (N11.out.below bl12)
            have B12 := Lib.hid (B11.out.keep bl12)
            clear bl12
            rcases hwh with ⟨hv, hr⟩ | ⟨hv, hr⟩
            · obtain rfl := hr12 (by rw [RT.out.1, hr]) (by rw [RT.out.2.1]; exact hv)
              clear hr12 hv hr
              have t0 := S12.out.c0
              have t1 := S12.out.c1
              have z0 := S12.out.f0
              have z1 := S12.out.f1
              have c0 := M12.out.c0
              have c1 := M12.out.c1
              go_wp2_with (fail)
              go_still_tail 3, (by kernel_rfl)
              change wpList _ _ _ _ _ (World.drew _)
              go_wp2
              go_roundw
              case rel =>
                refine ⟨k + 1, c + 1, sb2, y10, yd9, s3, d3, b11, by omega, rfl, by go_num, by go_num, Lib.hid ?_⟩
                show CI W.heap.size V (w12.setCells gl 0 [.int .i64 (s3.cur.now.root : Int), .map (some b11)]).drew db gl n (k + 1) (c + 1) sb2 y10 yd9 s3 d3 b11
                have hset := (S12.out.set M12.out HN2.out).below (Below.refl _ _).drew
                exact HC.out.next ((B12.out.pokes gl S12.out.fg HGL.out _ 0).keep (Below.refl _ _).drew) (Nat.le_refl _) Q3.out RT.out.2.2.2.2 RT.out.2.2.1 RT.out.2.2.2.1 (by rw [← RT.out.2.1, ← RT.out.1]; exact hset)
              case measure => simp [intOf]; omega
            · rcases r12 with _ | _
              · clear hr12
                have u0 := N12.out.c0
                have u1 := N12.out.c1
                have c0 := M12.out.c0
                have c1 := M12.out.c1
                have HH := Lib.hid (And.intro hv hr)
                clear hv hr
                go_wp2_with (fail)
                refine (equal_any _ _ _ b11 b5 5000 5000 _ _ M12.out.m N12.out.m).mono ?_
                rintro e w13 ⟨r13, rfl, hr13, bl13⟩
                obtain rfl := hr13 (by rw [RT.out.1, HH.out.2]) (by rw [RT.out.2.1]; exact HH.out.1)
                have S13 := Lib.hid (S12.out.below bl13)
                have M13 := Lib.hid (M12.out.below bl13)
                have B13 := Lib.hid (B12.out.keep bl13)
                clear hr13 bl13 u0 u1 c0 c1
                have t0 := S13.out.c0
                have t1 := S13.out.c1
                have z0 := S13.out.f0
                have z1 := S13.out.f1
                have c0 := M13.out.c0
                have c1 := M13.out.c1
                go_wp2_with (fail)
                go_still_tail 3, (by kernel_rfl)
                change wpList _ _ _ _ _ (World.drew _)
                go_wp2
                go_roundw
                case rel =>
                  refine ⟨k + 1, c + 1, sb2, y10, yd9, s3, d3, b11, by omega, rfl, by go_num, by go_num, Lib.hid ?_⟩
                  show CI W.heap.size V (w13.setCells gl 0 [.int .i64 (s3.cur.now.root : Int), .map (some b11)]).drew db gl n (k + 1) (c + 1) sb2 y10 yd9 s3 d3 b11
                  have hset := (S13.out.set M13.out HN2.out).below (Below.refl _ _).drew
                  exact HC.out.next ((B13.out.pokes gl S13.out.fg HGL.out _ 0).keep (Below.refl _ _).drew) (Nat.le_refl _) Q3.out RT.out.2.2.2.2 RT.out.2.2.1 RT.out.2.2.2.1 (by rw [← RT.out.2.1, ← RT.out.1]; exact hset)
                case measure => simp [intOf]; omega
              · clear hr12 hv hr
                have t0 := S12.out.c0
                have t1 := S12.out.c1
                have z0 := S12.out.f0
                have z1 := S12.out.f1
                have c0 := M12.out.c0
                have c1 := M12.out.c1
                go_wp2_with (fail)
                go_still_tail 3, (by kernel_rfl)
                change wpList _ _ _ _ _ (World.drew _)
                go_wp2
                go_roundw
                case rel =>
                  refine ⟨k + 1, c + 1, sb2, y10, yd9, s3, d3, b11, by omega, rfl, by go_num, by go_num, Lib.hid ?_⟩
                  show CI W.heap.size V (w12.setCells gl 0 [.int .i64 (s3.cur.now.root : Int), .map (some b11)]).drew db gl n (k + 1) (c + 1) sb2 y10 yd9 s3 d3 b11
                  have hset := (S12.out.set M12.out HN2.out).below (Below.refl _ _).drew
                  exact HC.out.next ((B12.out.pokes gl S12.out.fg HGL.out _ 0).keep (Below.refl _ _).drew) (Nat.le_refl _) Q3.out RT.out.2.2.2.2 RT.out.2.2.1 RT.out.2.2.2.1 (by rw [← RT.out.2.1, ← RT.out.1]; exact hset)
                case measure => simp [intOf]; omega
      · have h5' : ¬ ((f1 k).dw : Int) % 9 = 5 := by omega
        have DL := Lib.hid (does_lit HC.out.bo (f1 k) (hc k hlt).d (hc k hlt).nn (T1.out k hlt) (by have := HC.out.us; omega))
        clear hc h5
        go_wp2_with (first
          | (go_at_call 32; refine DL.out.mono ?_; rintro e w4 ⟨rfl, y4, b4, k4⟩; have B4 := Lib.hid b4; have K4 := Lib.hid k4; clear b4 k4))
        go_roundw
        case rel => exact ⟨k + 1, c, sb, y4, yd, doA s d (f1 k), d, b, by omega, rfl, rfl, by go_num, Lib.hid (HC.out.act _ (by omega) B4.out K4.out)⟩
        case measure => simp [intOf]; omega
    · obtain rfl : k = len1 := by omega
      have hlt' : ¬ (k : Int) < (k : Int) := by omega
      go_wp2_with (first
        | (go_at_call 30; refine (goes_any _ HC.out.bo.tab).mono ?_; rintro e w11 ⟨rfl, bl11⟩; have BL11 := Lib.hid bl11; clear bl11))
      go_ret
      exact ⟨rfl, HVB.out.trans ((HC.out.bo.keep BL11.out).st.bel)⟩
end Go.Proofs.YtnpebfolmdbipaaGreatDoor.Sk

