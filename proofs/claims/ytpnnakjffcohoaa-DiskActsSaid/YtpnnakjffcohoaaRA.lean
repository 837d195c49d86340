import Derived.Test.YtpnnakjffcohoaaR9
namespace Go.Proofs.Ytpnnakjffcohoaa
set_option linter.unusedVariables false
set_option linter.unusedSimpArgs false
open Go.RowKit Mem Go.ChangeMaps

/-! ### The tie's second half: flush, restart, acts -/
def fill (fs : List Int) (ms : Int) (n : Nat) : List Int := (List.range n).map fun k => fs.getD k ms
theorem fill_at (fs : List Int) (ms : Int) (n k : Nat) (h : k < n) : (fill fs ms n).getD k 0 = fs.getD k ms := by
  simp [fill, List.getD_eq_getElem?_getD, h]
theorem bit_none (q : Nat) : bit 0 q = false := by
  unfold bit; simp
theorem torn_none (a b : List UInt8) (ha : a.length = 4096) (hb : b.length = 4096) : torn 0 a b = a := by
  apply List.ext_getElem?
  intro i
  by_cases hi : i < 4096
  · have := torn_at 0 a b ha hb i hi
    rw [bit_none, if_neg (by simp), List.getD_eq_getElem?_getD, List.getD_eq_getElem?_getD] at this
    have h1 : i < (torn 0 a b).length := by rw [torn_len _ _ _ ha hb]; exact hi
    rw [List.getElem?_eq_getElem h1, List.getElem?_eq_getElem (by omega)] at this ⊢
    simpa using this
  · rw [List.getElem?_eq_none (by rw [torn_len _ _ _ ha hb]; omega), List.getElem?_eq_none (by omega)]
theorem toD_endK (r : Rfd) (fs : List Int) (ms : Int) : ∀ k, k ≤ (firsts r.since).length → toD (r.endK fs ms k) = (toD r).tornK (fill fs ms (firsts r.since).length) k
  | 0, _ => rfl
  | k + 1, hk => by
    have ih := toD_endK r fs ms k (by omega)
    obtain ⟨e1, e2, e3, e4⟩ := endK_same r fs ms k
    have ho : (toD r).order = firsts r.since := rfl
    show toD (r.endK fs ms (k + 1)) = ((toD r).tornK _ k).torn ((toD r).order.getD k 0) ((fill fs ms (firsts r.since).length).getD k 0)
    rw [fill_at _ _ _ _ (by omega), ho, ← ih]
    rfl
theorem toD_last (r : Rfd) (g : RGood r) (fs : List Int) (ms : Int) (i : Nat) : (i ∉ firsts r.since → (r.ended fs ms).lasts i = r.lasts i) ∧ ∀ j, (firsts r.since)[j]? = some i → (r.ended fs ms).lasts i = torn (fs.getD j ms) (r.lasts i) (r.page i) := by
  have h1 := tornK_last (toD r) (fill fs ms (firsts r.since).length) (toD_good g) (firsts r.since).length (Nat.le_refl _)
  rw [← toD_endK r fs ms _ (Nat.le_refl _)] at h1
  refine ⟨fun hi => h1.1 i (fun hm => hi (List.mem_of_mem_take hm)), fun j hj => ?_⟩
  have hjl : j < (firsts r.since).length := (List.getElem?_eq_some_iff.1 hj).1
  have h2 := h1.2 j hjl i hj
  rw [fill_at _ _ _ _ hjl] at h2
  exact h2
theorem rpage_len' {r : Rfd} (g : RGood r) (i : Nat) (hi : i < r.n) : (r.page i).length = 4096 := by
  unfold Rfd.page
  have key : ∀ l : List (Nat × List UInt8), (∀ p ∈ l, p.2.length = 4096) → ∀ x, waitOf l i = some x → x.length = 4096 := by
    refine snoc_ind (fun _ x e => by cases e) (fun l p ih hl x e => ?_)
    rw [waitOf_snoc] at e
    split at e
    · injection e with e; subst e; exact hl p (by simp)
    · exact ih (fun q hq => hl q (by simp [hq])) x e
  rcases hW : waitOf r.since i with _ | x
  · exact g.ln i hi
  · exact key _ (fun p hp => (g.sn p hp).2) x hW
theorem firsts_lt {r : Rfd} (g : RGood r) (i : Nat) (h : i ∈ firsts r.since) : i < r.n := by
  obtain ⟨p, hp, e⟩ := (firsts_mem _ _).1 h
  exact e ▸ (g.sn p hp).1
theorem dsk_eq {a b : Dsk} (h1 : a.n = b.n) (h2 : a.last = b.last) (h3 : a.wait = b.wait) (h4 : a.order = b.order) (h5 : a.dead = b.dead) (h6 : a.fuse = b.fuse) : a = b := by
  cases a; cases b; simp_all
theorem ended_same (r : Rfd) (fs : List Int) (ms : Int) : (r.ended fs ms).n = r.n ∧ (r.ended fs ms).since = [] ∧ (r.ended fs ms).left = r.left ∧ (r.ended fs ms).dead = r.dead := by
  obtain ⟨e1, e2, e3, e4⟩ := endK_same r fs ms (firsts r.since).length
  exact ⟨e1, rfl, e3, e4⟩
theorem toD_flushed (r : Rfd) (g : RGood r) : toD (r.ended [] 255) = (toD r).flushed := by
  obtain ⟨e1, e2, e3, e4⟩ := ended_same r [] 255
  refine dsk_eq e1 (funext fun i => ?_) ?_ ?_ e4 (by show fuseOf _ = fuseOf _; rw [e3])
  · show (r.ended [] 255).lasts i = r.page i
    obtain ⟨h1, h2⟩ := toD_last r g [] 255 i
    by_cases hm : i ∈ firsts r.since
    · obtain ⟨j, hj, e⟩ := List.getElem_of_mem hm
      rw [h2 j (by rw [List.getElem?_eq_getElem hj, e])]
      exact torn_all _ _ (g.ln i (firsts_lt g i hm)) (rpage_len' g i (firsts_lt g i hm))
    · rw [h1 hm]
      have : waitOf r.since i = none := by
        by_cases hn : waitOf r.since i = none
        · exact hn
        · exact absurd ((firsts_wait _ _).2 hn) hm
      unfold Rfd.page
      rw [this]; rfl
  · show waitOf (r.ended [] 255).since = _
    rw [e2]; rfl
  · show firsts (r.ended [] 255).since = _
    rw [e2]; rfl
theorem toD_doR (r : Rfd) (g : RGood r) (fs : List Int) : toD (r.doR fs) = (toD r).restart fs := by
  obtain ⟨e1, e2, e3, e4⟩ := ended_same r fs 0
  have hw := tornK_wait (toD r) fs (min (firsts r.since).length fs.length)
  refine dsk_eq (e1.trans hw.2.2.1.symm) (funext fun i => ?_) ?_ ?_ rfl rfl
  · show (r.ended fs 0).lasts i = ((toD r).tornK fs (min (firsts r.since).length fs.length)).last i
    obtain ⟨h1, h2⟩ := toD_last r g fs 0 i
    obtain ⟨k1, k2⟩ := tornK_last (toD r) fs (toD_good g) (min (firsts r.since).length fs.length) (Nat.min_le_left _ _)
    by_cases hm : i ∈ firsts r.since
    · obtain ⟨j, hj, e⟩ := List.getElem_of_mem hm
      have hj2 : (firsts r.since)[j]? = some i := by rw [List.getElem?_eq_getElem hj, e]
      rw [h2 j hj2]
      by_cases hjf : j < fs.length
      · exact (k2 j (by omega) i hj2).symm
      · rw [k1 i ?_]
        · have : fs.getD j 0 = 0 := by rw [List.getD_eq_getElem?_getD, List.getElem?_eq_none (by omega)]; rfl
          rw [this]
          exact torn_none _ _ (g.ln i (firsts_lt g i hm)) (rpage_len' g i (firsts_lt g i hm))
        · intro hmt
          obtain ⟨j', hj', e'⟩ := List.getElem_of_mem hmt
          rw [List.getElem_take] at e'
          have hj3 : j' < (firsts r.since).length := by rw [List.length_take] at hj'; omega
          have := (List.getElem_inj (h₀ := hj) (h₁ := hj3) (firsts_nodup r.since)).1 (e.trans e'.symm)
          rw [List.length_take] at hj'
          omega
    · rw [h1 hm, k1 i (fun h => hm (List.mem_of_mem_take h))]
      rfl
  · show waitOf (r.ended fs 0).since = _
    rw [e2]; rfl
  · show firsts (r.ended fs 0).since = _
    rw [e2]; rfl
theorem toD_ansF (r : Rfd) : r.ansF = (toD r).ansF := by
  unfold Rfd.ansF Dsk.ansF Dsk.went
  have ed : (toD r).dead = r.dead := rfl
  rw [ed, toD_cnt]
  cases r.dead <;> cases (toD r).burnt <;> rfl
theorem counted_same (r : Rfd) : r.counted.n = r.n ∧ r.counted.since = r.since ∧ r.counted.lasts = r.lasts := by
  unfold Rfd.counted
  split
  · exact ⟨rfl, rfl, rfl⟩
  · split <;> exact ⟨rfl, rfl, rfl⟩
theorem toD_doF (r : Rfd) (g : RGood r) : toD r.doF = (toD r).doF := by
  unfold Rfd.doF Dsk.doF Dsk.flush
  have ed : (toD r).dead = r.dead := rfl
  rw [ed, toD_cnt]
  cases r.dead with
  | true => simp
  | false =>
    cases h : (toD r).burnt with
    | true => simp [toD_counted]
    | false => simp [toD_flushed _ g.counted, toD_counted]
theorem toD_fuse (r : Rfd) (n : Int) : toD (r.fuse n) = (toD r).fuseTo n := by
  unfold Rfd.fuse Dsk.fuseTo
  have ed : (toD r).dead = r.dead := rfl
  rw [ed]
  cases r.dead <;> rfl
theorem toD_ansA (r : Rfd) (a : ActD) (hb : a.b < 256) : r.ansA a = (toD r).ansA a := by
  have ed : (toD r).dead = r.dead := rfl
  have h7 : a.dw % 7 < 7 := by omega
  unfold Rfd.ansA Dsk.ansA
  generalize a.dw % 7 = q at h7
  rcases (show q = 0 ∨ q = 1 ∨ q = 2 ∨ q = 3 ∨ q = 4 ∨ q = 5 ∨ q = 6 by omega) with rfl | rfl | rfl | rfl | rfl | rfl | rfl 
  · show r.ansW a.at' a.page = (toD r).ansW a.at'
    rw [toD_ansW, if_pos a.page_len]
  · exact toD_ansF r
  · rfl
  · rfl
  · rfl
  · show r.ansW a.at' (List.replicate a.b 0) = if (toD r).dead then 9 else 1
    rw [toD_ansW, if_neg (by rw [List.length_replicate]; omega), ed]
  · exact toD_ref r _
theorem toD_doA (r : Rfd) (g : RGood r) (a : ActD) (hb : a.b < 256) : toD (r.doA a) = (toD r).doA a := by
  have h7 : a.dw % 7 < 7 := by omega
  unfold Rfd.doA Dsk.doA
  generalize a.dw % 7 = q at h7
  rcases (show q = 0 ∨ q = 1 ∨ q = 2 ∨ q = 3 ∨ q = 4 ∨ q = 5 ∨ q = 6 by omega) with rfl | rfl | rfl | rfl | rfl | rfl | rfl 
  · show toD (r.doW a.at' a.page) = (toD r).doW a.at' a.page
    rw [toD_doW r g, if_pos a.page_len]
  · exact toD_doF r g
  · exact toD_fuse r _
  · rfl
  · exact toD_doR r g _
  · show toD (r.doW a.at' (List.replicate a.b 0)) = toD r
    rw [toD_doW r g, if_neg (by rw [List.length_replicate]; omega)]
  · rfl
theorem firsts_le (l : List (Nat × List UInt8)) : (firsts l).length ≤ l.length := by
  revert l
  refine snoc_ind (by simp [firsts]) (fun l p ih => ?_)
  rw [firsts_snoc]
  split
  · rw [List.length_append]; omega
  · rw [List.length_append, List.length_append]; simp; omega
theorem since_doA (r : Rfd) (a : ActD) : (r.doA a).since.length ≤ r.since.length + 1 := by
  have hW : ∀ i l, (r.doW i l).since.length ≤ r.since.length + 1 := fun i l => by
    unfold Rfd.doW
    split
    · omega
    · split
      · rw [(counted_same _).2.1]
        show (r.since ++ [(i.toNat, l)]).length ≤ _
        rw [List.length_append]; simp
      · omega
  unfold Rfd.doA
  split
  · exact hW _ _
  · unfold Rfd.doF
    split
    · omega
    · split
      · rw [(ended_same _ _ _).2.1]; exact Nat.zero_le _
      · rw [(counted_same _).2.1]; omega
  · unfold Rfd.fuse; split
    · omega
    · show r.since.length ≤ _; omega
  · show r.since.length ≤ _; omega
  · show (r.ended a.fates 0).since.length ≤ _; rw [(ended_same _ _ _).2.1]; exact Nat.zero_le _
  · exact hW _ _
  · omega
end Go.Proofs.Ytpnnakjffcohoaa
