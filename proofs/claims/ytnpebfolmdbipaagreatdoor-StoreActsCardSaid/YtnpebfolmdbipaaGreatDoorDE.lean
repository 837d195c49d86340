import Derived.Test.YtnpebfolmdbipaaGreatDoorDD
namespace Go.Proofs.YtnpebfolmdbipaaGreatDoor.Dk
set_option maxRecDepth 8000
set_option linter.unusedVariables false
set_option linter.unusedSimpArgs false
open Go.RowKit Mem Go.ChangeMaps
variable {w : World} {db : Nat} {y : Lay} {d : Dsk}

/-- The first k pages that wait, torn. -/
def Dsk.tornK (d : Dsk) (fs : List Int) : Nat → Dsk
  | 0 => d
  | k + 1 => (d.tornK fs k).torn (d.order.getD k 0) (fs.getD k 0)
theorem tornK_wait (d : Dsk) (fs : List Int) : ∀ k, (d.tornK fs k).wait = d.wait ∧ (d.tornK fs k).order = d.order ∧ (d.tornK fs k).n = d.n ∧ (d.tornK fs k).dead = d.dead ∧ (d.tornK fs k).fuse = d.fuse
  | 0 => ⟨rfl, rfl, rfl, rfl, rfl⟩
  | k + 1 => tornK_wait d fs k
theorem tornK_last (d : Dsk) (fs : List Int) (hg : Good d) : ∀ k, k ≤ d.order.length → (∀ i, i ∉ d.order.take k → (d.tornK fs k).last i = d.last i) ∧ ∀ j, j < k → ∀ i, d.order[j]? = some i → (d.tornK fs k).last i = torn (fs.getD j 0) (d.last i) (d.page i)
  | 0, _ => ⟨fun i _ => rfl, fun j hj => by omega⟩
  | k + 1, hk => by
    obtain ⟨h1, h2⟩ := tornK_last d fs hg k (by omega)
    have hkl : k < d.order.length := by omega
    have e0 : d.order.getD k 0 = d.order[k] := by rw [List.getD_eq_getElem?_getD, List.getElem?_eq_getElem hkl]; rfl
    have hl : ∀ i, (d.tornK fs (k + 1)).last i = if i = d.order[k] then torn (fs.getD k 0) ((d.tornK fs k).last d.order[k]) ((d.tornK fs k).page d.order[k]) else (d.tornK fs k).last i := fun i => by
      show (if i = d.order.getD k 0 then _ else _) = _
      rw [e0]; rfl
    have hp : (d.tornK fs k).page d.order[k] = d.page d.order[k] := by
      have hm := (hg.mem _).1 (List.getElem_mem hkl)
      unfold Dsk.page
      rw [(tornK_wait d fs k).1]
      rcases hW : d.wait d.order[k] with _ | l
      · exact absurd hW hm.2
      · rfl
    have hnk : d.order[k] ∉ d.order.take k := by
      intro hm
      obtain ⟨j, hj, e⟩ := List.getElem_of_mem hm
      rw [List.getElem_take] at e
      have hj' : j < k := by simp at hj; omega
      have := (List.getElem_inj hg.nodup).1 e
      omega
    refine ⟨fun i hi => ?_, fun j hj i e => ?_⟩
    · rw [List.take_succ_eq_append_getElem hkl, List.mem_append, List.mem_singleton] at hi
      rw [hl, if_neg (fun e => hi (.inr e)), h1 i (fun e => hi (.inl e))]
    · by_cases e2 : j = k
      · subst e2
        rw [List.getElem?_eq_getElem hkl] at e
        injection e with e
        rw [hl, if_pos e.symm, hp, h1 _ hnk, e]
      · have hjl : j < d.order.length := by omega
        have hne : i ≠ d.order[k] := by
          rw [List.getElem?_eq_getElem hjl] at e
          injection e with e
          intro e3
          rw [← e] at e3
          have := (List.getElem_inj hg.nodup).1 e3
          omega
        rw [hl, if_neg hne, h2 j (by omega) i e]

/-- A disk whose power came again. -/
def Dsk.restart (d : Dsk) (fs : List Int) : Dsk := { (d.tornK fs (min d.order.length fs.length)).forget with dead := false, fuse := none }
theorem restart_good (d : Dsk) (fs : List Int) : Good (d.restart fs) := ⟨fun i => by simp [Dsk.restart, Dsk.forget], List.nodup_nil⟩

theorem rdi_of_block {w w' : World} {B : Nat} {A : Option Addr} {c : Nat} {l : List Int} (h : RdI w B A c l) (hk : ∀ a, A = some a → a.block < B → w'.heap[a.block]? = w.heap[a.block]?) : RdI w' B A c l :=
  ⟨h.1, h.2.1, h.2.2.1, fun hn => by
    obtain ⟨b, o, e, hb, hc⟩ := h.2.2.2 hn
    exact ⟨b, o, e, hb, fun i hi => (show w'.cell? ⟨b, o + i, none⟩ = w.cell? ⟨b, o + i, none⟩ from World.cell?_of_block (w := w) (hk ⟨b, o, none⟩ e hb)).trans (hc i hi)⟩⟩
theorem RdI.at {w : World} {B b o c : Nat} {l : List Int} (h : RdI w B (some ⟨b, o, none⟩) c l) (k : Nat) (hk : k < l.length) : w.cell? ⟨b, o + k, none⟩ = some (.int .i64 l[k]) := by
  obtain ⟨b', o', e, _, hc⟩ := h.2.2.2 (by omega)
  simp at e
  obtain ⟨rfl, rfl⟩ := e
  exact hc k hk

theorem IsD.reset (h : IsD w db y d) : IsD (((w.setCell ⟨db, 3, none⟩ (.bool false)).setCell ⟨db, 4, none⟩ (.bool false)).setCell ⟨db, 5, none⟩ (.int .i64 0)) db y { d with dead := false, fuse := none } ∧
    Kp w y (((w.setCell ⟨db, 3, none⟩ (.bool false)).setCell ⟨db, 4, none⟩ (.bool false)).setCell ⟨db, 5, none⟩ (.int .i64 0)) y := by
  have h1 := h.setDead false
  have h2 := fuse_row h1 none (by simp)
  exact ⟨h2, Kp.same ((h.setFr 3 _).trans (two_fr h1 4 5 _ _) fun _ _ h => h)⟩

theorem restart_nil (w : World) (v : Value) : Calls Tryz.prog 35 #[.pointer none, v] w fun e w' => e = .returned (.tuple #[]) ∧ w' = w := by
  go_enter Tryz.func35, Tryz.ntmps35
  go_wp2
  first | go_end0 | (simp only [Exit.inBlock, Exit.then]; refine bodyPost_ret (results_none rfl _ _ _) rfl ?_) | refine bodyPost_ret (results_none rfl _ _ _) rfl ?_
  exact ⟨rfl, rfl⟩

set_option maxHeartbeats 2000000 in
theorem restart_any (h : IsD w db y d) (hg : Good d) (hm : y.m < 1000000000) (A : Option Addr) (c n : Nat) (fs : List Int) (hr : RdI w w.heap.size A c fs) (hn : fs.length = n) (hA : 0 < fs.length → ∀ a, A = some a → ¬ y.foot a.block) :
    Calls Tryz.prog 35 #[ptr db, .slice A n c] w fun e w' => e = .returned (.tuple #[]) ∧ ∃ y', IsD w' db y' (d.restart fs) ∧ Kp w y w' y' ∧ y'.m ≤ y.m := by
  have c2 := h.c2
  obtain ⟨A1, c1, hov, hri, _, _⟩ := h.ord.form
  rw [hov] at c2
  obtain ⟨nn, hnn⟩ : ∃ nn, nn = (ints d.order).length := ⟨_, rfl⟩
  rw [← hnn] at c2 hov
  have hnl : nn = d.order.length := by rw [hnn, ints_len]
  have hnb : nn < 1000000000 := by have := h.ordLen; omega
  have H := Lib.hid h
  have H1 := Lib.hid hg
  have H2 := Lib.hid hr
  have H3 := Lib.hid hn
  have H4 := Lib.hid hA
  have H5 := Lib.hid hov
  have H6 := Lib.hid hnl
  have H7 := Lib.hid hri
  clear h hg hr hn hA hov hri hnn hnl hm
  go_enter Tryz.func35, Tryz.ntmps35
  go_wp2
  go_loopw [13] (fun v wr => ∃ k : Nat, k ≤ nn ∧ k ≤ n ∧ v = .int .i64 k ∧ Hid (∃ yk, IsD wr db yk (d.tornK fs k) ∧ Kp w y wr yk ∧ yk.m = y.m ∧ yk.ov = y.ov)) (fun v _ => nn - (intOf v).toNat)
  case atStart => exact ⟨0, Nat.zero_le _, Nat.zero_le _, rfl, y, H.out, Kp.refl _ _, rfl, rfl⟩
  case round =>
    obtain ⟨k, hk, hkn, rfl, hX⟩ := hrel
    obtain ⟨yk, hDk, hKk, hmk, hovk⟩ := hX.out
    have r1 := Lib.hid hDk
    have r2 := Lib.hid hKk
    have r3 := Lib.hid (And.intro hmk hovk)
    clear hX hDk hKk hmk hovk
    by_cases hlt : k < nn
    · have hko : k < d.order.length := by have := H6.out; omega
      obtain ⟨b1, o1, rfl⟩ : ∃ b o, A1 = some ⟨b, o, none⟩ := by
        obtain ⟨b, o, e, _⟩ := H7.out.2.2.2 (by rw [ints_len]; omega)
        exact ⟨b, o, e⟩
      have hcell : wr.cell? ⟨b1, o1 + k, none⟩ = some (.int .i64 (d.order[k] : Int)) := by
        obtain ⟨A2, c2', e2, h2, _, _⟩ := r1.out.ord.form
        rw [r3.out.2, H5.out] at e2
        injection e2 with e2 _ _
        subst e2
        have e3 : (d.tornK fs k).order = d.order := (tornK_wait d fs k).2.1
        have := RdI.at h2 k (by rw [ints_len, e3]; exact hko)
        rw [this]
        simp [ints, e3]
      by_cases hf : k < n
      · obtain ⟨b2, o2, rfl⟩ : ∃ b o, A = some ⟨b, o, none⟩ := by
          obtain ⟨b, o, e, _⟩ := H2.out.2.2.2 (by have := H3.out; omega)
          exact ⟨b, o, e⟩
        have hkf : k < fs.length := by have := H3.out; omega
        have hcf : wr.cell? ⟨b2, o2 + k, none⟩ = some (.int .i64 fs[k]) :=
          RdI.at (rdi_of_block H2.out fun a ha hb => r2.out.fr.block _ hb (H4.out (by omega) a ha)) k hkf
        have hne : ¬ ((k : Int) = (n : Int)) := by omega
        have hmem := (H1.out.mem _).1 (List.getElem_mem hko)
        have T := Lib.hid (tear_any r1.out d.order[k] fs[k] (by rw [(tornK_wait d fs k).2.2.1]; exact hmem.1) (by rw [(tornK_wait d fs k).1]; exact hmem.2))
        have e1 : (d.tornK fs k).torn d.order[k] fs[k] = d.tornK fs (k + 1) := by
          show _ = (d.tornK fs k).torn (d.order.getD k 0) (fs.getD k 0)
          rw [List.getD_eq_getElem?_getD, List.getElem?_eq_getElem hko, List.getD_eq_getElem?_getD, List.getElem?_eq_getElem hkf]; rfl
        rw [e1] at T
        have hff : (k : Int) < (n : Int) := by omega
        clear hmem e1
        generalize d.order[k] = pp at hcell T
        generalize fs[k] = ff at hcf T
        go_wp2_with (go_at_call 68; refine T.out.mono ?_; rintro e w2 ⟨rfl, y2, i1, i2, i3, i4⟩; have s1 := Lib.hid i1; have s2 := Lib.hid i2; have s3 := Lib.hid (And.intro i3 i4); clear i1 i2 i3 i4)
        go_roundw
        case rel => exact ⟨k + 1, by omega, by omega, by go_num, y2, s1.out, r2.out.trans s2.out, s3.out.1.trans r3.out.1, s3.out.2.trans r3.out.2⟩
        case measure => simp [intOf]; omega
      · obtain rfl : k = n := by omega
        have hfin : k = min d.order.length fs.length := by have := H6.out; have := H3.out; omega
        have HF := Lib.hid hfin
        clear hfin 
        go_wp2_with (go_at_call 69; refine (forget_any r1.out).mono ?_; rintro e w2 ⟨rfl, i1, i2⟩; have s1 := Lib.hid i1; have s2 := Lib.hid i2; have c3 := i1.c3; have c4 := i1.c4; have c5 := i1.c5; have f3 := i1.frozen 3; have f4 := i1.frozen 4; have f5 := i1.frozen 5; clear i1 i2)
        go_end0
        have e1 : d.restart fs = { (d.tornK fs k).forget with dead := false, fuse := none } := by rw [Dsk.restart, ← HF.out]
        rw [e1]
        exact ⟨rfl, _, s1.out.reset.1, (r2.out.trans s2.out).trans s1.out.reset.2, Nat.zero_le _⟩
    · obtain rfl : k = nn := by omega
      have hfin : k = min d.order.length fs.length := by have := H6.out; have := H3.out; omega
      have HF := Lib.hid hfin
      clear hfin 
      go_wp2_with (go_at_call 69; refine (forget_any r1.out).mono ?_; rintro e w2 ⟨rfl, i1, i2⟩; have s1 := Lib.hid i1; have s2 := Lib.hid i2; have c3 := i1.c3; have c4 := i1.c4; have c5 := i1.c5; have f3 := i1.frozen 3; have f4 := i1.frozen 4; have f5 := i1.frozen 5; clear i1 i2)
      go_end0
      have e1 : d.restart fs = { (d.tornK fs k).forget with dead := false, fuse := none } := by rw [Dsk.restart, ← HF.out]
      rw [e1]
      exact ⟨rfl, _, s1.out.reset.1, (r2.out.trans s2.out).trans s1.out.reset.2, Nat.zero_le _⟩
end Go.Proofs.YtnpebfolmdbipaaGreatDoor.Dk
