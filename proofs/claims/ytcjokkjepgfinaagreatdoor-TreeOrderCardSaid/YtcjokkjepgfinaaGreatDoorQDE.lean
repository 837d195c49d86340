import Derived.Test.YtcjokkjepgfinaaGreatDoorQD9
import Derived.Laws.CopyOwn
import Derived.Laws.BitsLemmas
import Derived.Lib.SliceRun
set_option linter.unusedVariables false
set_option linter.unusedSimpArgs false
namespace Go.Proofs.YtcjokkjepgfinaaGreatDoor.Dk
set_option maxRecDepth 8000
open Go.RowKit Mem Go.ChangeMaps
variable {w : World} {db : Nat} {y : Lay} {d : Dsk}
def Dsk.flushed (d : Dsk) : Dsk := { d with last := fun i => d.page i, wait := fun _ => none, order := [] }
def Dsk.flush (d : Dsk) : Dsk := if d.burnt then d.burn else d.burn.flushed
theorem flush_bad (h : IsD w db y d) (hd : d.dead = true) :
    Calls Tryz.prog 77 #[ptr db] w fun e w' => e = .returned (.int .i64 9) ∧ w' = w := by
  have hr := refuses_any h 108 #[] true (enter41 _) (fits41 w)
  rw [show refuse d true = 9 by simp [refuse, hd]] at hr
  have H2 := Lib.hid hr
  clear h hr
  go_enter Tryz.func77, Tryz.ntmps77
  go_wp2_with (go_at_call 107; refine H2.out.mono ?_; rintro e w1 ⟨rfl, rfl⟩)
  go_ret
  exact ⟨rfl, rfl⟩
def moved (y : Lay) (l : List Nat) (i : Nat) : Option (Nat × Nat) := if i ∈ l then y.M i else y.L i
theorem IsD.flushedTo {w1 wr : World} (h : IsD w1 db y d) (hg : Good d) (hs : wr.heap.size = w1.heap.size) (hf : Fr (fun k => k = y.lb) w1 wr) (hl : wr.rowIs y.lb 32 d.n (fun i => sl (moved y d.order i))) {w2 : World}
    (hm : MapIs w2 y.mb 0 (.slice none 0 0) (fun _ => none)) (ht : wr.mapTurned w2 y.mb) :
    ∃ y', IsD (w2.setCell ⟨db, 2, none⟩ (.slice none 0 0)) db y' d.flushed ∧ Kp w1 y (w2.setCell ⟨db, 2, none⟩ (.slice none 0 0)) y' ∧ y'.m ≤ y.m := by
  have hk : ∀ {k r}, y.role k = some r → r ≠ .lasts → wr.heap[k]? = w1.heap[k]? := fun {k r} e hr => hf.block k (h.foot k (by simp [Lay.foot, e])) (fun e2 => hr (by subst e2; rw [h.rlb] at e; cases e; rfl))
  have H := IsD.clearTo (w := wr) (db := db) (y := { y with L := moved y d.order }) (d := { d with last := fun i => d.page i }) (w1 := w2)
    ((h.row.of_block (hk h.rdb (by simp))).congr fun j hj => by match j, hj with | 0, _ | 1, _ | 2, _ | 3, _ | 4, _ | 5, _ => rfl) h.n1 h.n2 hl (fun i hi => by
      show LastAt wr y.role i (moved y d.order i) (d.page i)
      have hw := (h.waitOk i hi).of_block (w' := wr) fun k e => hk e (by simp)
      have hL := (h.lastOk i hi).of_block (w' := wr) fun k e => hk e (by simp)
      have hmem := hg.mem i
      unfold moved Dsk.page
      by_cases e : i ∈ d.order
      · rw [if_pos e]
        have hne := (hmem.1 e).2
        rcases hW : d.wait i with _ | l
        · exact absurd hW hne
        · rw [hW] at hw
          rcases hM : y.M i with _ | ⟨b, c⟩
          · rw [hM] at hw; exact hw.elim
          · rw [hM] at hw; exact hw
      · rw [if_neg e]
        have : d.wait i = none := by
          rcases hW : d.wait i with _ | l
          · rfl
          · exact absurd (hmem.2 ⟨hi, by rw [hW]; simp⟩) e
        rw [this]; exact hL)
    h.rdb h.rlb h.rmb (fun k hk => by have := h.foot k hk; omega) h.fuseOk (fun i hi => by
      show (d.page i).length = 4096
      unfold Dsk.page
      rcases hW : d.wait i with _ | l
      · exact h.lastLen i hi
      · exact h.waitLen i l hi hW) hm ht
  refine ⟨_, H.1, (⟨hf.mono (fun k _ e => by subst e; exact h.flb), fun _ _ h => h⟩ : Kp w1 y wr { y with L := moved y d.order }).trans H.2, Nat.zero_le _⟩
theorem sl_moved (h : IsD w db y d) (hg : Good d) (k : Nat) (hk : k < d.order.length) : ((y.M d.order[k]).map fun x => sl (some x)).getD (.slice none 0 0) = sl (moved y (d.order.take (k + 1)) d.order[k]) := by
  have hm : d.order[k] ∈ d.order.take (k + 1) := by rw [List.take_succ_eq_append_getElem hk]; exact List.mem_append_right _ (List.mem_singleton.2 rfl)
  rw [moved, if_pos hm]
  cases y.M d.order[k] <;> rfl
theorem moved_step (y : Lay) (l : List Nat) (k : Nat) (hk : k < l.length) (j : Nat) : sl (moved y (l.take (k + 1)) j) = if j = l[k] then sl (moved y (l.take (k + 1)) l[k]) else sl (moved y (l.take k) j) := by
  by_cases e : j = l[k]
  · rw [if_pos e, e]
  · rw [if_neg e]
    congr 1
    unfold moved
    have e2 : j ∈ l.take (k + 1) ↔ j ∈ l.take k := by
      rw [List.take_succ_eq_append_getElem hk, List.mem_append, List.mem_singleton]
      simp only [e, or_false]
    simp only [e2]
theorem forget_raw {mb m : Nat} {ov : Value} {V : Nat → Option Value} (h1 : w.cell? ⟨db, 1, none⟩ = some (.map (some mb))) (h2 : w.cell? ⟨db, 2, none⟩ = some ov) (f2 : w.frozen? ⟨db, 2, none⟩ = false) (hm : MapIs w mb m (.slice none 0 0) V) (hne : db ≠ mb) :
    Calls Tryz.prog 110 #[ptr db] w fun e w' => e = .returned (.tuple #[]) ∧ ∃ w1, MapIs w1 mb 0 (.slice none 0 0) (fun _ => none) ∧ w.mapTurned w1 mb ∧ w' = w1.setCell ⟨db, 2, none⟩ (.slice none 0 0) := by
  obtain ⟨w1, hrun, hm', ht⟩ := hm.clear Tryz.underlying93 0
  have hb := ht.grown.block db (by exact lt_of_cell h1) (fun e => hne (by injection e))
  have h2' : w1.cell? ⟨db, 2, none⟩ = some ov := (World.cell?_of_block (w := w) hb).trans h2
  have f2' : w1.frozen? ⟨db, 2, none⟩ = false := (World.frozen?_of_block (w := w) hb).trans f2
  have H := Lib.hid hm'
  have H1 := Lib.hid ht
  clear hm hm' ht hb h2 f2
  go_enter Tryz.func110, Tryz.ntmps110
  go_wp2
  go_end0
  exact ⟨rfl, w1, H.out, H1.out, rfl⟩
theorem IsD.round {w1 wr : World} (h : IsD w1 db y d) (hg : Good d) (hs : wr.heap.size = w1.heap.size) (hf : Fr (fun k => k = y.lb) w1 wr) (k : Nat) (hk : k < d.order.length) (hl : wr.rowIs y.lb 32 d.n (fun i => sl (moved y (d.order.take k) i))) :
    ∃ b c, sl (moved y (d.order.take (k + 1)) d.order[k]) = .slice (some ⟨b, 0, none⟩) 4096 c ∧ d.order[k] < d.n ∧
      (Instr.lookup 93 (.map (some y.mb)) (.int .i64 (d.order[k] : Int)) false).run Tryz.prog wr.drew = .ok (.slice (some ⟨b, 0, none⟩) 4096 c) wr.drew := by
  have hlt : d.order[k] < d.n := ((hg.mem _).1 (List.getElem_mem hk)).1
  have hne := ((hg.mem _).1 (List.getElem_mem hk)).2
  have hw := h.waitOk _ hlt
  have hk' : wr.heap[y.mb]? = w1.heap[y.mb]? := hf.block _ (h.foot _ h.fmb) (fun e => h.ne_lm e.symm)
  have n2 := h.n2
  have hlk := (h.waits.of_block (w' := wr.drew) hk').look Tryz.underlying93 (zero42 _) d.order[k] (by omega)
  rw [sl_moved h hg k hk] at hlk
  have hm : d.order[k] ∈ d.order.take (k + 1) := by rw [List.take_succ_eq_append_getElem hk]; exact List.mem_append_right _ (List.mem_singleton.2 rfl)
  rcases hM : y.M d.order[k] with _ | ⟨b, c⟩
  · rcases hW : d.wait d.order[k] with _ | l
    · exact absurd hW hne
    · rw [hM, hW] at hw; exact hw.elim
  · have e1 : moved y (d.order.take (k + 1)) d.order[k] = some (b, c) := by rw [moved, if_pos hm, hM]
    rw [e1] at hlk
    exact ⟨b, c, by rw [e1]; rfl, hlt, hlk⟩
set_option maxHeartbeats 1000000 in
theorem flush_any (h : IsD w db y d) (hg : Good d) (hm : y.m < 1000000000) (hd : d.dead = false) :
    Calls Tryz.prog 77 #[ptr db] w fun e w' => e = .returned (.int .i64 d.went) ∧ ∃ y', IsD w' db y' d.flush ∧ Kp w y w' y' ∧ y'.m ≤ y.m := by
  have hr := refuses_any h 108 #[] true (enter41 _) (fits41 w)
  rw [show refuse d true = 0 by simp [refuse, hd]] at hr
  have H2 := Lib.hid hr
  have hb := burns_any h
  by_cases hbt : d.burnt = true
  · have e1 : d.flush = d.burn := by simp [Dsk.flush, hbt]
    have e2 : d.went = 9 := by simp [Dsk.went, hbt]
    rw [hbt] at hb
    rw [e1, e2]
    have H3 := Lib.hid hb
    clear h hr hb e1 e2 hbt hd
    go_enter Tryz.func77, Tryz.ntmps77
    go_wp2_with (first | (go_at_call 107; refine H2.out.mono ?_; rintro e w1 ⟨rfl, rfl⟩) | (go_at_call 109; refine H3.out.mono ?_; rintro e w6 ⟨rfl, hD6, hK6⟩; have r1 := Lib.hid hD6; have r2 := Lib.hid hK6; clear hD6 hK6))
    go_ret
    exact ⟨rfl, y, r1.out, r2.out, Nat.le_refl _⟩
  · have hbt' : d.burnt = false := by simpa using hbt
    have e1 : d.flush = d.burn.flushed := by simp [Dsk.flush, hbt']
    have e2 : d.went = 0 := by simp [Dsk.went, hbt']
    rw [hbt'] at hb
    rw [e1, e2]
    have hg1 : Good d.burn := by
      unfold Dsk.burn; split
      · exact hg
      · exact ⟨hg.mem, hg.nodup⟩
      · exact ⟨hg.mem, hg.nodup⟩
    have H3 := Lib.hid hb
    have HG := Lib.hid hg1
    have HM := Lib.hid hm
    have ho : d.burn.order = d.order := by unfold Dsk.burn; split <;> rfl
    clear h hr hb e1 e2 hbt hd hg1 hm hg hbt'
    generalize d.burn = d1 at H3 HG ho ⊢
    clear ho
    go_enter Tryz.func77, Tryz.ntmps77
    go_wp2_with (first | (go_at_call 107; refine H2.out.mono ?_; rintro e w1 ⟨rfl, rfl⟩) | (go_at_call 109; refine H3.out.mono ?_; rintro e w1 ⟨rfl, hD1, hK1⟩; obtain ⟨A, c, hov, hri, _, hsp⟩ := hD1.ord.form; have c2 := hD1.c2; rw [hov] at c2; obtain ⟨nn, hnn⟩ : ∃ nn, nn = (ints d1.order).length := ⟨_, rfl⟩; rw [← hnn] at c2; have r1 := Lib.hid hD1; have r2 := Lib.hid hK1; have r3 := Lib.hid hri; have r4 := Lib.hid hnn; have r5 := Lib.hid (show ∀ a, A = some a → y.role a.block = some .order from fun a ha => hD1.rob _ (by rw [hov, ha]; rfl)); clear hD1 hK1 hri hsp hov hnn))
    go_loopw [18] (fun v wr => ∃ k : Nat, k ≤ nn ∧ v = .int .i64 k ∧ wr.heap.size = w1.heap.size ∧ Hid (Fr (fun b => b = y.lb) w1 wr) ∧ Hid (wr.rowIs y.lb 32 d1.n (fun i => sl (moved y (d1.order.take k) i)))) (fun v _ => nn - (intOf v).toNat)
    case atStart => exact ⟨0, Nat.zero_le _, rfl, rfl, Fr.refl _ _, r1.out.lasts.congr fun i _ => by simp [moved]⟩
    case round =>
      obtain ⟨k, hk, rfl, hs, hf, hl⟩ := hrel
      have s1 := Lib.hid hs
      have hnb : nn < 1000000000 := by have := r4.out; have := r1.out.ordLen; have := HM.out; rw [ints_len] at *; omega
      have hk0 := fun (j : Nat) (hj : y.foot j) (hn : j ≠ y.lb) => hf.out.block j (r1.out.foot j hj) hn
      have c0 : wr.cell? ⟨db, 0, none⟩ = some (.slice (some ⟨y.lb, 0, none⟩) d1.n d1.n) := (World.cell?_of_block (w := w1) (hk0 _ r1.out.fdb r1.out.ne_lb)).trans r1.out.c0
      have c1 : wr.cell? ⟨db, 1, none⟩ = some (.map (some y.mb)) := (World.cell?_of_block (w := w1) (hk0 _ r1.out.fdb r1.out.ne_lb)).trans r1.out.c1
      by_cases hlt : k < nn
      · have hlt' : k < d1.order.length := by have := r4.out; rw [ints_len] at this; omega
        obtain ⟨b, o, rfl, hb, hc⟩ := r3.out.2.2.2 (by have := r4.out; omega)
        have hck := hc k (by have := r4.out; omega)
        have hcell : wr.cell? ⟨b, o + k, none⟩ = some (.int .i64 (d1.order[k] : Int)) := by
          have hro := r5.out _ rfl
          have e1 := hk0 b (by simp [Lay.foot, hro]) (fun e => by subst e; have := r1.out.rlb; rw [hro] at this; cases this)
          have e2 : (ints d1.order)[k]'(by have := r4.out; omega) = (d1.order[k] : Int) := by simp [ints]
          rw [e2] at hck
          exact (World.cell?_of_block (w := w1) (a := ⟨b, o + k, none⟩) e1).trans hck
        obtain ⟨b', c', hv, hpn, hlk⟩ := IsD.round r1.out HG.out s1.out hf.out k hlt' hl.out
        have hst := hl.out.cell hpn
        have hfz := hl.out.frozen d1.order[k]
        have h1 := Lib.hid ((hl.out.drew.set d1.order[k] (sl (moved y (d1.order.take (k + 1)) d1.order[k]))).congr fun j _ => (moved_step y d1.order k hlt' j).symm)
        rw [hv] at h1
        generalize d1.order[k] = p at hcell hv hpn hlk hst hfz h1
        have hv' := Lib.hid hv
        clear hc hck hs hk0 hv
        generalize sl (moved y (d1.order.take k) p) = ol at hst
        have hpn' : (p : Int) < (d1.n : Int) := by omega
        go_wp2
        go_still_tail 12, (by kernel_rfl)
        change wpList _ _ _ _ _ wr.drew
        go_wp2
        go_roundw
        case rel =>
          refine ⟨k + 1, by omega, by go_num, by simpa [World.setCell] using s1.out, ?_, h1.out⟩
          exact Lib.hid ((hf.out.drew).trans (Fr.setCell (F := fun b => b = y.lb) _ _ (fun _ => rfl) _) fun _ _ h => h)
        case measure => simp [intOf]; omega
      · obtain rfl : k = nn := by omega
        have hto : d1.order.take k = d1.order := List.take_of_length_le (by have := r4.out; rw [ints_len] at this; omega)
        rw [hto] at hl
        have c2' : wr.cell? ⟨db, 2, none⟩ = some (.slice A k c) := (World.cell?_of_block (w := w1) (hk0 _ r1.out.fdb r1.out.ne_lb)).trans c2
        have f2' : wr.frozen? ⟨db, 2, none⟩ = false := (World.frozen?_of_block (w := w1) (hk0 _ r1.out.fdb r1.out.ne_lb)).trans (r1.out.frozen 2)
        have hm := r1.out.waits.of_block (w' := wr) (hk0 _ r1.out.fmb (fun e => r1.out.ne_lm e.symm))
        have hfg := Lib.hid (forget_raw c1 c2' f2' hm r1.out.ne_mb)
        clear c0 c1 c2 c2' f2' hm hk0 hs hto
        go_wp2_with (go_at_call 110; refine hfg.out.mono ?_; rintro e w3 ⟨rfl, w2, hm2, ht2, rfl⟩; have x1 := Lib.hid (IsD.flushedTo r1.out HG.out s1.out hf.out hl.out hm2 ht2); clear hm2 ht2)
        go_ret
        obtain ⟨y', z1, z2, z3⟩ := x1.out
        exact ⟨rfl, y', z1, r2.out.trans z2, z3⟩
variable {w : World} {db : Nat} {y : Lay} {d : Dsk}
def bit (f : Int) (s : Nat) : Bool := decide (f / 2 ^ s % 2 = 1)
variable {w : World} {db : Nat} {y : Lay} {d : Dsk}
variable {w : World} {db : Nat} {y : Lay} {d : Dsk}
theorem RdI.at {w : World} {B b o c : Nat} {l : List Int} (h : RdI w B (some ⟨b, o, none⟩) c l) (k : Nat) (hk : k < l.length) : w.cell? ⟨b, o + k, none⟩ = some (.int .i64 l[k]) := by
  obtain ⟨b', o', e, _, hc⟩ := h.2.2.2 (by omega)
  simp at e
  obtain ⟨rfl, rfl⟩ := e
  exact hc k hk
end Go.Proofs.YtcjokkjepgfinaaGreatDoor.Dk
