import Derived.Test.YtpnnakjffcohoaaA3
namespace Go.Proofs.Ytpnnakjffcohoaa
set_option linter.unusedVariables false
set_option linter.unusedSimpArgs false
open Go.RowKit Mem Go.ChangeMaps

/-- A disk's pages, in rows of their own, none of them in a block of F. -/
def Pages (w : World) (F : Nat → Prop) (v : Value) (n : Nat) (pg : Nat → List UInt8) : Prop :=
  ∃ gs : Nat → Nat × Nat, w.ownsRow 0 42 1 v n ((List.range n).map fun i => sl (some (gs i))) ∧ (∀ k, v.ownBlock = some k → ¬ F k) ∧ ∀ i, i < n → ¬ F (gs i).1 ∧ Own 5 w 0 (sl (some (gs i))) (pg i)

section
variable {w w' : World} {F : Nat → Prop} {v : Value} {n : Nat} {pg : Nat → List UInt8}
theorem Pages.nil (w : World) (F : Nat → Prop) (pg : Nat → List UInt8) : Pages w F (.slice none 0 0) 0 pg := ⟨fun _ => (0, 0), World.ownsRow_nil _ _ _ _, (fun k e => by cases e), (fun i hi => by omega)⟩
theorem Pages.move {F' : Nat → Prop} (h : Pages w F v n pg) (hk : ∀ k, k < w.heap.size → ¬ F k → ¬ F' k ∧ w'.heap[k]? = w.heap[k]?) : Pages w' F' v n pg := by
  obtain ⟨gs, h1, h2, h3⟩ := h
  have hl := World.ownsRow.lt h1
  refine ⟨gs, owns_of_block h1 fun k e => (hk k (hl k e).2 (h2 k e)).2, fun k e => (hk k (hl k e).2 (h2 k e)).1, fun i hi => ?_⟩
  obtain ⟨h4, h5⟩ := h3 i hi
  have hlt := (World.ownsRow.lt h5) (gs i).1 rfl
  exact ⟨(hk _ hlt.2 h4).1, Own.of_block h5 fun k e => by cases e; exact (hk _ hlt.2 h4).2⟩
theorem Pages.kp {y y' : Lay} (h : Pages w y.foot v n pg) (k : Kp w y w' y') : Pages w' y'.foot v n pg := h.move fun j hj hf => k.free hj hf
theorem Pages.below (h : Pages w F v n pg) (hb : Below w.heap.size w w') : Pages w' F v n pg := h.move fun j hj hf => ⟨hf, hb.block j hj⟩
theorem Pages.congr {pg' : Nat → List UInt8} (h : Pages w F v n pg) (e : ∀ i, i < n → pg i = pg' i) : Pages w F v n pg' := by
  obtain ⟨gs, h1, h2, h3⟩ := h
  exact ⟨gs, h1, h2, fun i hi => e i hi ▸ h3 i hi⟩
/-- Opened: the row, and each page. -/
theorem Pages.form (h : Pages w F v n pg) : ∃ A c, v = .slice A n c ∧ (0 < n → ∃ g, A = some ⟨g, 0, none⟩ ∧ ∀ i, i < n → ∃ b cb, w.cell? ⟨g, i, none⟩ = some (.slice (some ⟨b, 0, none⟩) 4096 cb) ∧ Own 5 w 0 (.slice (some ⟨b, 0, none⟩) 4096 cb) (pg i)) := by
  obtain ⟨gs, h1, h2, h3⟩ := h
  have hcells := fun g hg => World.ownsRow.cells (g := g) h1 hg
  rcases h1.2 with ⟨rfl, rfl⟩ | ⟨g, cap, cur, rfl, hb, hh, hnc, hcm, _, _⟩
  · exact ⟨none, 0, rfl, fun h => by omega⟩
  · refine ⟨_, cap, rfl, fun _ => ⟨g, rfl, fun i hi => ⟨(gs i).1, (gs i).2, ?_, (h3 i hi).2⟩⟩⟩
    have := hcells g rfl i (sl (some (gs i))) (by simp [hi])
    rwa [show (⟨g, 0, none⟩ : Addr).add i = ⟨g, i, none⟩ by unfold Addr.add; split <;> simp_all] at this
/-- One more page. -/
theorem Pages.push {v' : Value} {gs : Nat → Nat × Nat} (h1 : w.ownsRow 0 42 1 v n ((List.range n).map fun i => sl (some (gs i)))) (h2 : ∀ k, v.ownBlock = some k → ¬ F k) (h3 : ∀ i, i < n → ¬ F (gs i).1 ∧ Own 5 w 0 (sl (some (gs i))) (pg i)) {w1 : World} (hg : w.grownBy w1 v.ownBlock) (b c : Nat) (hbF : ¬ F b) (hb : Own 5 w 0 (.slice (some ⟨b, 0, none⟩) 4096 c) (pg n))
    (hat : v'.ownBlock = v.ownBlock ∨ v'.ownBlock = some w.heap.size) (hnew : ¬ F w.heap.size)
    (ho : w1.ownsRow 0 42 1 v' (n + 1) (((List.range n).map fun i => sl (some (gs i))) ++ [.slice (some ⟨b, 0, none⟩) 4096 c])) : Pages w1 F v' (n + 1) pg := by
  have hne : ∀ (g c' : Nat) (l : List UInt8), Own 5 w 0 (.slice (some ⟨g, 0, none⟩) 4096 c') l → w1.heap[g]? = w.heap[g]? := fun g c' l hl => by
    obtain ⟨_, _, _, cur, hh, _⟩ := own_parts hl
    refine hg.block g (Array.getElem?_eq_some_iff.1 hh).1 (fun e => ?_)
    rcases h1.2 with ⟨rfl, _⟩ | ⟨g', cap, cur', rfl, _, hh', _⟩
    · cases e
    · injection e with e
      subst e
      rw [hh] at hh'
      cases hh'
  refine ⟨fun i => if i = n then (b, c) else gs i, ?_, fun k e => ?_, fun i hi => ?_⟩
  · have e1 : ((List.range (n + 1)).map fun i => sl (some (if i = n then (b, c) else gs i))) = ((List.range n).map fun i => sl (some (gs i))) ++ [.slice (some ⟨b, 0, none⟩) 4096 c] := by
      rw [List.range_succ, List.map_append]
      congr 1
      · apply List.map_congr_left
        intro i hi
        rw [List.mem_range] at hi
        rw [if_neg (by omega)]
      · simp [sl]
    rw [e1]; exact ho
  · rcases hat with e2 | e2
    · exact h2 k (e2 ▸ e)
    · rw [e2] at e; injection e with e; subst e; exact hnew
  · by_cases e : i = n
    · subst e
      show ¬ F (if i = i then (b, c) else gs i).1 ∧ Own 5 w1 0 (sl (some (if i = i then (b, c) else gs i))) (pg i)
      rw [if_pos rfl]
      exact ⟨hbF, Own.of_block hb fun k e => by cases e; exact hne _ _ _ hb⟩
    · show ¬ F (if i = n then (b, c) else gs i).1 ∧ Own 5 w1 0 (sl (some (if i = n then (b, c) else gs i))) (pg i)
      rw [if_neg e]
      obtain ⟨h4, h5⟩ := h3 i (by omega)
      exact ⟨h4, Own.of_block h5 fun k e => by cases e; exact hne _ _ _ h5⟩
end

variable {B : Nat} {W w : World} {db : Nat} {y : Lay} {d : Dsk} {m : Nat}

theorem page_len (h : IsD w db y d) (i : Nat) (hi : i < d.n) : (d.page i).length = 4096 := by
  unfold Dsk.page
  rcases hW : d.wait i with _ | l
  · exact h.lastLen i hi
  · exact h.waitLen i l hi hW

theorem all_dead (s : St B W w db y d m) (hd : d.dead = true) : Calls Try.prog 23 #[ptr db] w fun e w' => e = .returned (.slice none 0 0) ∧ St B W w' db y d m ∧ Below w.heap.size w w' := by
  have hr : d.ref 0 = 9 := by simp [Dsk.ref, refuse, hd]
  have S := Lib.hid s
  have hn : 0 < (d.n : Int) := by have := s.is.n1; omega
  clear s
  go_enter Try.func23, Try.ntmps23
  go_wp2_with fail
  go_loopw [4] (fun v wr => v = .int .i64 0 ∧ w = wr) (fun v _ => 1 - (intOf v).toNat)
  case atStart => exact ⟨rfl, rfl⟩
  case round =>
    obtain ⟨rfl, rfl⟩ := hrel
    go_wp2_with fail
    refine (size_any S.out.is).mono ?_
    rintro e w1 ⟨rfl, rfl⟩
    go_wp2_with fail
    refine (S.out.read 0).mono ?_
    rintro e w2 ⟨v, rfl, _, hv, s2, b2⟩
    rw [hr] at hv ⊢
    obtain rfl := hv (by omega)
    have S2 := Lib.hid s2
    have B2 := Lib.hid b2
    clear s2 b2 hv
    go_wp2_with fail
    go_ret
    exact ⟨rfl, S2.out, B2.out⟩

theorem St.grown (s : St B W w db y d m) {w' : World} {row : Option Nat} (hg : w.grownBy w' row) (hr : ∀ k, row = some k → ¬ y.foot k ∧ B ≤ k) : St B W w' db y d m :=
  ⟨s.is.keep hg.size fun k hk => hg.block k (s.is.foot k hk) (fun e => (hr k e.symm).1 hk), s.good, s.le, s.bel.grown hg (Nat.le_trans s.base s.bel.size) (fun k e => (hr k e).2), s.low, s.base⟩

set_option maxHeartbeats 1000000 in
theorem all_any (s : St B W w db y d m) (hd : d.dead = false) : Calls Try.prog 23 #[ptr db] w fun e w' => ∃ v, e = .returned v ∧ St B W w' db y d m ∧ Below w.heap.size w w' ∧ Pages w' y.foot v d.n d.page := by
  have S := Lib.hid s
  have hn := s.is.n2
  have HD := Lib.hid hd
  have HF := Lib.hid (show ∀ k, w.heap.size ≤ k → ¬ y.foot k from fun k hk => fresh_not s.is k hk)
  obtain ⟨i0, hi, hz0, hz1, hz2⟩ := info_parts row_info
  clear s hd
  go_enter Try.func23, Try.ntmps23
  go_wp2_with fail
  go_loopw [4, 3] (fun v o wr => ∃ k : Nat, k ≤ d.n ∧ v = .int .i64 k ∧ Hid (St B W wr db y d m ∧ Below w.heap.size w wr ∧ Pages wr y.foot o k d.page ∧ ∀ j, o.ownBlock = some j → w.heap.size ≤ j)) (fun v _ _ => d.n - (intOf v).toNat)
  case atStart => exact ⟨0, Nat.zero_le _, rfl, S.out, Below.refl _ _, Pages.nil _ _ _, fun j e => by cases e⟩
  case round =>
    obtain ⟨k, hk, rfl, hX⟩ := hrel
    obtain ⟨s1, b1, p1, o1⟩ := hX.out
    have S1 := Lib.hid s1
    have B1 := Lib.hid b1
    have O1 := Lib.hid o1
    have P1 := Lib.hid p1
    clear hX s1 b1 p1 o1
    by_cases hlt : k < d.n
    · have hr : d.ref (k : Int) = 0 := (ref_zero d k).2 ⟨HD.out, by omega, by omega⟩
      have HR := Lib.hid hr
      clear hr
      go_wp2_with fail
      refine (size_any S1.out.is).mono ?_
      rintro e w1 ⟨rfl, rfl⟩
      go_wp2_with fail
      refine (S1.out.read k).mono ?_
      rintro e w2 ⟨v, rfl, ho, _, s2, b2⟩
      rw [HR.out] at ho ⊢
      have ho := ho rfl
      rw [Int.toNat_natCast] at ho
      obtain ⟨g, c, rfl, hg1, hg2⟩ := Own.page ho (page_len S1.out.is k hlt)
      have hng : ¬ y.foot g := HF.out g (Nat.le_trans B1.out.size hg1)
      have B2 := Lib.hid (B1.out.trans (b2.mono B1.out.size))
      have S2 := Lib.hid s2
      obtain ⟨gs, h1, h2, h3⟩ := P1.out.below b2
      have O2 := Lib.hid (Own.down ho)
      have NG := Lib.hid hng
      have H1 := Lib.hid h1
      have H23 := Lib.hid (And.intro h2 h3)
      clear ho s2 b2 hg1 hng h1 h2 h3 S1 P1
      have O3 := Lib.hid (Own.of_block (w' := w2.alloc (.cells #[.slice (some ⟨g, 0, none⟩) 4096 c] 42)) O2.out fun j e => by cases e; exact Below.heap_alloc _ _ _ hg2)
      have H1' := Lib.hid (World.ownsRow.alloc H1.out (.cells #[.slice (some ⟨g, 0, none⟩) 4096 c] 42))
      have S3 := Lib.hid (S2.out.alloc (.cells #[.slice (some ⟨g, 0, none⟩) 4096 c] 42))
      have hnn : k < 5000 := by omega
      go_wp2_with (at_builtin; refine wpList_append_own_at _ rfl _ _ 50 rfl 0 42 i0 (.slice none 0 0) 1 24 Try.underlying50 hi hz0 hz1 hz2 rfl (by decide) _ _ _ rfl H1'.out ⟨w2.heap.size, 0, none⟩ 1 1 [.slice (some ⟨g, 0, none⟩) 4096 c] rfl rfl (by
        intro j u hu
        have : j = 0 := by
          rcases Nat.eq_zero_or_pos j with h | h
          · exact h
          · rw [List.getElem?_eq_none (by simp; omega)] at hu; cases hu
        subst this
        simp at hu
        subst hu
        exact cell_alloc_new w2 _ 42) (by intro u hu; simp at hu; subst hu; rfl) (by unfold maxLen; omega) (by omega) (Nat.zero_le _) ?_; intro v' w3 hown hgrow hnil hloc; have X := Lib.hid (And.intro hown (And.intro hgrow hloc)); clear hown hgrow hnil hloc)
      obtain ⟨hown, hgrow, hloc⟩ := X.out
      have x1 := S3.out.grown hgrow (fun j e => ⟨HF.out j (O1.out j e), Nat.le_trans (Nat.le_trans S.out.base S.out.bel.size) (O1.out j e)⟩)
      have x2 := (B2.out.alloc B2.out.size (.cells #[.slice (some ⟨g, 0, none⟩) 4096 c] 42)).grown hgrow (Nat.le_trans B2.out.size (by simp)) (fun j e => O1.out j e)
      have hsz : w.heap.size ≤ (w2.alloc (.cells #[.slice (some ⟨g, 0, none⟩) 4096 c] 42)).heap.size := Nat.le_trans B2.out.size (by simp)
      have x3 := Pages.push (F := y.foot) (pg := d.page) H1'.out H23.out.1 (fun i hi => ⟨(H23.out.2 i hi).1, Own.of_block (H23.out.2 i hi).2 fun j e => by
        have hlt := (World.ownsRow.lt (H23.out.2 i hi).2) (gs i).1 rfl
        cases e; exact Below.heap_alloc _ _ _ hlt.2⟩) hgrow g c NG.out O3.out hloc (HF.out _ hsz) hown
      have x4 : ∀ j, v'.ownBlock = some j → w.heap.size ≤ j := fun j e => by
        rcases hloc with e2 | e2
        · exact O1.out j (e2 ▸ e)
        · rw [e2] at e; injection e with e; omega
      have XX := Lib.hid (And.intro x1 (And.intro x2 (And.intro x3 x4)))
      clear X hown hgrow hloc x1 x2 x3 x4 hsz
      go_roundw
      case rel => exact ⟨k + 1, by omega, by go_num, XX.out⟩
      case measure => simp [intOf]; omega
    · obtain rfl : k = d.n := by omega
      go_wp2_with fail
      refine (size_any S1.out.is).mono ?_
      rintro e w1 ⟨rfl, rfl⟩
      go_wp2_with fail
      go_ret
      exact ⟨_, rfl, S1.out, B1.out, P1.out⟩
end Go.Proofs.Ytpnnakjffcohoaa
