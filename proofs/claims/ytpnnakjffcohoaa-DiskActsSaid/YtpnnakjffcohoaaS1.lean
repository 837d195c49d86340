import Derived.Test.YtpnnakjffcohoaaA5
namespace Go.Proofs.Ytpnnakjffcohoaa
set_option linter.unusedVariables false
set_option linter.unusedSimpArgs false
open Go.RowKit Mem Go.ChangeMaps

/-- A sector. -/
def sector (l : List UInt8) (q : Nat) : List UInt8 := (l.drop (512 * q)).take 512
theorem sector_len (l : List UInt8) (q : Nat) (hl : l.length = 4096) (hq : q < 8) : (sector l q).length = 512 := by
  simp [sector, hl]; omega
theorem sector_at (l : List UInt8) (q i : Nat) (hi : i < 512) : (sector l q)[i]? = l[512 * q + i]? := by
  rw [sector, List.getElem?_take_of_lt hi, List.getElem?_drop]
theorem torn_sector (f : Int) (a b : List UInt8) (ha : a.length = 4096) (hb : b.length = 4096) (q : Nat) (hq : q < 8) : sector (torn f a b) q = if bit f q = true then sector b q else sector a q := by
  have key : ∀ l : List UInt8, l.length = 4096 → (∀ i, i < 512 → (torn f a b).getD (512 * q + i) 0 = l.getD (512 * q + i) 0) → sector (torn f a b) q = sector l q := fun l hl h => by
    apply List.ext_getElem?
    intro i
    by_cases hi : i < 512
    · rw [sector_at _ _ _ hi, sector_at _ _ _ hi]
      have := h i hi
      rw [List.getD_eq_getElem?_getD, List.getD_eq_getElem?_getD] at this
      have h1 : 512 * q + i < (torn f a b).length := by rw [torn_len f a b ha hb]; omega
      have h2 : 512 * q + i < l.length := by omega
      rw [List.getElem?_eq_getElem h1, List.getElem?_eq_getElem h2] at this ⊢
      simpa using this
    · rw [List.getElem?_eq_none (by rw [sector_len _ _ (torn_len f a b ha hb) hq]; omega), List.getElem?_eq_none (by rw [sector_len _ _ hl hq]; omega)]
  have hd : ∀ i, i < 512 → (512 * q + i) / 512 = q := fun i hi => by omega
  by_cases h : bit f q = true
  · rw [if_pos h]
    exact key b hb fun i hi => by rw [torn_at f a b ha hb _ (by omega), hd i hi, if_pos h]
  · rw [if_neg h]
    exact key a ha fun i hi => by rw [torn_at f a b ha hb _ (by omega), hd i hi, if_neg h]

/-- Behind the disk was flushed: what the acts behind leave of it. -/
structure Fl (d : Dsk) (n : Nat) (L : Nat → List UInt8) : Prop where
  n : d.n = n
  last : ∀ i, d.last i = L i
  dead : d.dead = true → d.order ≠ []

theorem put_fields (d : Dsk) (i : Nat) (l : List UInt8) : (d.put i l).n = d.n ∧ (d.put i l).last = d.last ∧ (d.put i l).dead = d.dead ∧ (d.put i l).fuse = d.fuse := by
  unfold Dsk.put; split <;> exact ⟨rfl, rfl, rfl, rfl⟩
theorem burn_fields (d : Dsk) : d.burn.n = d.n ∧ d.burn.last = d.last ∧ d.burn.order = d.order ∧ d.burn.wait = d.wait := by
  unfold Dsk.burn; split <;> exact ⟨rfl, rfl, rfl, rfl⟩
theorem put_order {d : Dsk} (hg : Good d) {i : Nat} (hi : i < d.n) (l : List UInt8) : (d.put i l).order ≠ [] := by
  have := ((put_good hg hi l).mem i).2 ⟨by rw [(put_fields d i l).1]; exact hi, by
    unfold Dsk.put; split <;> (show (if i = i then some l else _) ≠ none; rw [if_pos rfl]; simp)⟩
  intro e
  rw [e] at this
  cases this
theorem Fl.doW {d : Dsk} {n : Nat} {L : Nat → List UInt8} (h : Fl d n L) (hg : Good d) (i : Int) (l : List UInt8) : Fl (d.doW i l) n L := by
  unfold Dsk.doW
  split
  · rename_i hr
    have hr := (ref_zero d i).1 hr
    obtain ⟨p1, p2, p3, p4⟩ := put_fields d i.toNat l
    obtain ⟨b1, b2, b3, b4⟩ := burn_fields (d.put i.toNat l)
    refine ⟨by rw [b1, p1, h.n], fun j => by rw [b2, p2, h.last], fun _ => ?_⟩
    rw [b3]
    exact put_order hg (by omega) l
  · exact h
theorem Fl.fuseTo {d : Dsk} {n : Nat} {L : Nat → List UInt8} (h : Fl d n L) (k : Int) : Fl (d.fuseTo k) n L := by
  unfold Dsk.fuseTo; split
  · exact h
  · exact ⟨h.n, h.last, h.dead⟩
theorem Fl.doA {d : Dsk} {n : Nat} {L : Nat → List UInt8} (h : Fl d n L) (hg : Good d) (a : ActD) (ha : a.dw % 7 = 0 ∨ a.dw % 7 = 2) : Fl (d.doA a) n L := by
  unfold Dsk.doA
  rcases ha with e | e <;> rw [e]
  · exact h.doW hg _ _
  · exact h.fuseTo _
theorem restart_page (d : Dsk) (fs : List Int) (i : Nat) : (d.restart fs).page i = (d.restart fs).last i := rfl
theorem restart_n (d : Dsk) (fs : List Int) : (d.restart fs).n = d.n := by
  show (d.tornK fs _).n = d.n
  exact (tornK_wait d fs _).2.2.1
theorem restart_nilfates (d : Dsk) (i : Nat) : (d.restart []).last i = d.last i := by
  show (d.tornK [] (min d.order.length 0)).last i = _
  rw [Nat.min_zero]; rfl
/-- Each sector of what lasts then. -/
theorem now_sector {d : Dsk} (hg : Good d) (fs : List Int) (i : Nat) (hL : (d.last i).length = 4096) (hP : (d.page i).length = 4096) (q : Nat) (hq : q < 8) :
    sector ((d.restart fs).page i) q = sector (d.last i) q ∨ sector ((d.restart fs).page i) q = sector (d.page i) q := by
  rw [restart_page, restart_last _ _ hg]
  split
  · split
    · rw [torn_sector _ _ _ hL hP q hq]
      split
      · exact .inr rfl
      · exact .inl rfl
    · exact .inl rfl
  · exact .inl rfl

/-- The string of a sector. -/
theorem run_sector (w : World) (b c fr q : Nat) (l : List UInt8) (h : Own 5 w 0 (.slice (some ⟨b, 0, none⟩) 4096 c) l) (hfr : fr = 512 * q) (hq : q < 8) :
    (convert 42 9 (.slice (some ⟨b, fr, none⟩) 512 (c - fr))).run Try.prog w = .ok (.string (str (sector l q))) w := by
  obtain ⟨hl, hc, hm, _⟩ := own_parts h
  have hr : Rd w w.heap.size (some ⟨b, 0, none⟩) c l := by
    obtain ⟨A, c', e, h1, _⟩ := h.form
    injection e with e1 e2 e3
    subst e1 e3
    exact h1
  have h1 := (hr.drop fr (by omega)).take 512
  rw [Nat.zero_add] at h1
  have := run_str_rd w h1
  rw [show ((l.drop fr).take 512) = sector l q by rw [sector, hfr], sector_len l q hl hq] at this
  exact this
end Go.Proofs.Ytpnnakjffcohoaa
