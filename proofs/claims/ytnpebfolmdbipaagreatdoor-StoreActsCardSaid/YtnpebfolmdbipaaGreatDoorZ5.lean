import Derived.Test.YtnpebfolmdbipaaGreatDoorZ2
import Derived.RangeFuncNested
import Derived.RangeFuncBound
import Derived.RangeFuncCalls
import Derived.RangeFuncLeaves
import Derived.Shelf.Abstract
import Derived.Shelf.RegionOpen
import Derived.WalkKit
import Derived.OwnWalkIn
import Derived.TacticsInMore
import Derived.LoopNIn
import Derived.LoopIn
import Derived.RegionIn
import Derived.Stop.RegionWithIn
import Derived.Test.YtnpebfolmdbipaaGreatDoorF1
import Derived.BigRegion
import Derived.Lib.SliceRun
import Derived.Sort.BigQuietIn
import Derived.Deep.RegionHeld3
import Derived.Test.YtnpebfolmdbipaaGreatDoorZ4
import Derived.Test.YtnpebfolmdbipaaGreatDoorOpen
import Derived.Test.YtnpebfolmdbipaaGreatDoorDI
import Derived.Test.YtnpebfolmdbipaaGreatDoorRef
import Derived.SizedLaws
import Derived.Lib.AppendStr
import Derived.Maps.Ext
import Derived.Maps.StringElems
import Derived.Maps.OwnSet
import Derived.Maps.RangeWalk
namespace Go.Proofs.YtnpebfolmdbipaaGreatDoor.Sk
set_option maxRecDepth 8000
set_option linter.unusedVariables false
set_option linter.unusedSimpArgs false
open Go.RowKit Mem Go.ChangeMaps
open Dk (cod elem cod_inj elem_mk elem_inv key key_inj wf_key keyed3 MapIs Fr ptr hmf cell_alloc cell_alloc_new zero42 IsD Dsk Lay drewN_cell Kp ref_zero newD newY)
theorem mcs_app (l k : List (Nat × Bool)) : mcs (l ++ k) = mcs l ++ mcs k := by
  induction l with
  | nil => rfl
  | cons x l ih => show _ :: _ :: mcs (l ++ k) = _; rw [ih]; rfl
theorem mark_info : (Tryz.prog.info? 116).map (fun i => (i.zero, i.size, i.bytes)) = some (some (.agg #[.int .i64 0, .bool false]), 2, 16) := by kernel_rfl
section
variable {w w' : World} {sb db : Nat} {y y' : SLay} {s s' : Sto}
theorem IsS.marked (h : IsS w sb y db s) {o : Obj} {w2 : World} {v' : Value} (r1 : w2.ownsRow 0 116 2 v' (s.marks.length + 1) (mcs s.marks ++ [.int .i64 (s.us.length : Int), .bool s.changed])) (r2 : (w.alloc o).grownBy w2 y.mv.ownBlock) (r3 : v'.ownBlock = y.mv.ownBlock ∨ v'.ownBlock = some (w.alloc o).heap.size) :
    IsS (w2.setCell ⟨sb, 1028, none⟩ v') sb { y with mv := v', m := y.m + 1, role := y.rowed v' .marks } db s.mark ∧ Ks w y (w2.setCell ⟨sb, 1028, none⟩ v') { y with mv := v', m := y.m + 1, role := y.rowed v' .marks } := by
  have hb1 : ∀ k r, y.role k = some r → r ≠ .marks → w2.heap[k]? = w.heap[k]? := fun k r e hr => by
    have hlt := h.foot k (by simp [SLay.foot, e])
    refine (r2.block k (by simp; omega) (fun e2 => ?_)).trans (Below.heap_alloc _ _ _ hlt)
    have := h.rm k e2.symm
    rw [e] at this; cases this; exact hr rfl
  have hsz : w.heap.size ≤ w2.heap.size := by have := r2.size; simp at this; omega
  have hbu : ∀ k, v'.ownBlock = some k → y.role k = some .marks ∨ y.role k = none ∧ w.heap.size ≤ k := fun k e => by
    rcases r3 with e3 | e3
    · exact .inl (h.rm k (by rw [← e3]; exact e))
    · have hk : k = w.heap.size + 1 := by rw [e3] at e; injection e with e; simp at e; omega
      exact .inr ⟨h.not_foot (by omega), by omega⟩
  have hr : ∀ {k r}, y.role k = some r → r ≠ .marks → y.rowed v' .marks k = some r := fun {k r} e hn => by
    unfold SLay.rowed
    rw [if_neg (fun e2 => ?_)]
    · exact e
    · rcases hbu k e2 with h2 | ⟨h2, _⟩
      · rw [e] at h2; cases h2; exact hn rfl
      · rw [e] at h2; cases h2
  have hr2 : ∀ {k}, y.role k = some .marks → y.rowed v' .marks k = some .marks := fun {k} e => by
    unfold SLay.rowed; split
    · rfl
    · exact e
  have hk2 : ∀ k, k ≠ sb → (w2.setCell ⟨sb, 1028, none⟩ v').heap[k]? = w2.heap[k]? := fun k hk => Below.heap_setCell _ _ _ _ hk
  have hkk : ∀ k r, y.role k = some r → r ≠ .marks → r ≠ .store → (w2.setCell ⟨sb, 1028, none⟩ v').heap[k]? = w.heap[k]? := fun k r e h1 h2 => (hk2 k (fun e2 => by rw [e2, h.rs] at e; cases e; exact h2 rfl)).trans (hb1 k r e h1)
  have hcs : ∀ k, y.role k = some .const → (w2.setCell ⟨sb, 1028, none⟩ v').heap[k]? = w.heap[k]? := fun k e => hkk k _ e (by simp) (by simp)
  have hvs : ∀ k, v'.ownBlock = some k → k ≠ sb := fun k e e2 => by
    subst e2
    rcases hbu _ e with h2 | ⟨h2, _⟩
    · rw [h.rs] at h2; cases h2
    · rw [h.rs] at h2; cases h2
  refine ⟨?_, ?_, ?_⟩
  · exact {
      row := by
        refine ((h.row.of_block (hb1 sb _ h.rs (by simp))).set 1028 v').congr fun j hj => ?_
        unfold scell
        by_cases e : j = 1028
        · subst e; rfl
        · rw [if_neg e]; unfold Sto.mark; simp only [if_neg e]
      map := (h.map.of_block (hkk _ _ h.rf (by simp) (by simp))).mono (Nat.le_succ _)
      freshOk := fun p hp => ((h.freshOk p hp).of_block hcs).more fun k e => hr e (by simp)
      marksOk := by
        have := Dk.owns_of_block r1 (w' := w2.setCell ⟨sb, 1028, none⟩ v') fun k e => hk2 k (hvs k e)
        show World.ownsRow _ 0 116 2 v' (s.marks ++ [(s.us.length, s.changed)]).length (mcs (s.marks ++ [(s.us.length, s.changed)]))
        rw [mcs_app, List.length_append]
        exact this
      undoOk := Dk.owns_of_block h.undoOk fun k e => hkk k _ (h.ru k e) (by simp) (by simp)
      unAt := fun i v x h1 h2 => ((h.unAt i v x h1 h2).of_block hcs).more fun k e => hr e (by simp)
      rs := hr h.rs (by simp), rf := hr h.rf (by simp)
      rm := fun k e => by show y.rowed v' .marks k = _; unfold SLay.rowed; rw [if_pos e]
      ru := fun k e => hr (h.ru k e) (by simp)
      foot := fun k e => by
        have hs2 : (w2.setCell ⟨sb, 1028, none⟩ v').heap.size = w2.heap.size := by simp [World.setCell]
        rw [hs2]
        by_cases e2 : v'.ownBlock = some k
        · exact (World.ownsRow.lt r1 k e2).2
        · have : y.foot k := by
            have e3 : y.rowed v' .marks k ≠ none := e
            unfold SLay.rowed at e3; rw [if_neg e2] at e3; exact e3
          exact Nat.lt_of_lt_of_le (h.foot k this) hsz
      usLen := by have := h.usLen; show s.us.length ≤ y.m + 1; omega
      msLen := by have := h.msLen; show (s.marks ++ [(s.us.length, s.changed)]).length ≤ y.m + 1; simp; omega }
  · refine ⟨⟨r2.os, r2.tape, r2.output, by simpa [World.setCell] using hsz, fun k hk hf => ?_⟩, fun k hk e => ?_⟩
    · refine (hk2 k (fun e => hf (e ▸ h.fsb))).trans ((r2.block k (by simp; omega) (fun e2 => hf ?_)).trans (Below.heap_alloc _ _ _ hk))
      have := h.rm k e2.symm
      simp [SLay.foot, this]
    · by_cases e2 : v'.ownBlock = some k
      · rcases hbu k e2 with h2 | ⟨_, h2⟩
        · simp [SLay.foot, h2]
        · omega
      · have e3 : y.rowed v' .marks k ≠ none := e
        unfold SLay.rowed at e3; rw [if_neg e2] at e3; exact e3
  · exact fun k hk => ⟨hcs k hk, hr hk (by simp)⟩

set_option maxHeartbeats 1000000 in
theorem cmark_any (h : IsS w sb y db s) (hm : y.m < 1000000000) :
    Calls Tryz.prog 61 #[pt sb] w fun e w' => e = .returned (.int .i64 ((s.marks.length : Int) + 1)) ∧ ∃ y', IsS w' sb y' db s.mark ∧ Ks w y w' y' ∧ y'.m ≤ y.m + 1 := by
  have hd := h.drew
  have c4 := h.cmarks
  have c5 := h.cundo
  have c7 := h.cchanged
  obtain ⟨A2, c2, huv⟩ := own_len' h.undoOk
  rw [huv] at c5
  have hul := h.usLen
  have hml := h.msLen
  have hne : y.mv.ownBlock ≠ some sb := fun e => by have := h.rm sb e; rw [h.rs] at this; cases this
  obtain ⟨o, ho⟩ : ∃ o, o = Obj.cells #[.int .i64 (s.us.length : Int), .bool s.changed] 116 := ⟨_, rfl⟩
  have hO : (w.drew.alloc o).ownsRow 0 116 2 y.mv s.marks.length (mcs s.marks) := Dk.owns_of_block hd.marksOk fun k hk => Below.heap_alloc _ _ _ (World.ownsRow.lt hd.marksOk k hk).2
  have hC : ∀ j u, [Value.int .i64 (s.us.length : Int), Value.bool s.changed][j]? = some u → (w.drew.alloc o).cell? ((⟨w.drew.heap.size, 0, none⟩ : Addr).add j) = some u := fun j u hj => by
    rw [ho, show (⟨w.drew.heap.size, 0, none⟩ : Addr).add j = ⟨w.drew.heap.size, j, none⟩ by unfold Addr.add; split <;> simp_all, cell_of_row _ _ _ _ _ _ (heap_alloc_new w.drew _)]
    simpa using hj
  have hX : ∀ u ∈ [Value.int .i64 (s.us.length : Int), Value.bool s.changed], u.oneCell' = true := by simp [Value.oneCell']
  obtain ⟨it, hi1, hz, h2, h3⟩ := info_parts mark_info
  obtain ⟨v', w2, hrun, r1, r2, _, r3⟩ := run_append_own_at (P := Tryz.prog) (w.drew.alloc o) 0 84 84 116 it (.agg #[.int .i64 0, .bool false]) 2 16 Tryz.underlying84 hi1 hz h2 h3 rfl (by omega) y.mv s.marks.length (mcs s.marks) hO ⟨w.drew.heap.size, 0, none⟩ 1 1 [.int .i64 (s.us.length : Int), .bool s.changed] rfl hC hX (by unfold maxLen; omega) (by omega) (Nat.zero_le _)
  obtain ⟨A, c, hmv⟩ := own_len' h.marksOk
  obtain ⟨A3, c3, rfl⟩ := own_len' r1
  have k9 := hd.marked r1 r2 r3
  have g9 := hd.alloc o
  have b9 : w2.heap[sb]? = _ := r2.block sb (g9.foot sb g9.fsb) (fun e => hne e.symm)
  have c9 := (World.cell?_of_block (a := ⟨sb, 1028, none⟩) b9).trans g9.cmarks
  have f9 := (frozen_of_block b9 1028).trans (g9.frozen 1028)
  have K9 := Lib.hid k9
  rw [hmv] at hrun c4
  rw [ho] at hrun
  have hrun' : Sem.run Tryz.prog (Builtin.append_ #[84, 84] 84 #[.slice A s.marks.length c, .slice (some ⟨w.heap.size, 0, none⟩) 1 1]) (w.alloc (.cells #[.int .i64 (s.us.length : Int), .bool s.changed] 116)).drew = .ok (.slice A3 (s.marks.length + 1) c3) w2 := hrun
  have HX := Lib.hid hrun'
  have KD := Lib.hid (Ks.ofBelow h (Below.refl _ w).drew)
  have z4 := Dk.cell_alloc c4 (.cells #[.int .i64 (s.us.length : Int), .bool s.changed] 116)
  have z5 := Dk.cell_alloc c5 (.cells #[.int .i64 (s.us.length : Int), .bool s.changed] 116)
  have z7 := Dk.cell_alloc c7 (.cells #[.int .i64 (s.us.length : Int), .bool s.changed] 116)
  have e8 := World.cell?_setCell_same w2 _ (.slice A3 (s.marks.length + 1) c3) c9
  clear hrun hrun' k9 g9 b9 r1 r2 r3 hO hC hX hne huv hmv hd h hi1 hz h2 h3
  go_enter Tryz.func61, Tryz.ntmps61
  go_wp2
  go_region_law (refine Dk.step_append_run rfl (.tmp 7) (.tmp 18) 84 rfl (.slice A s.marks.length c) (.slice (some ⟨w.heap.size, 0, none⟩) 1 1) (by simp [Act.eval, Act.put]) (by simp [Act.eval, Act.put]) HX.out ?_)
  all_goals
    go_wp2
    go_ret
    exact ⟨rfl, _, K9.out.1, KD.out.trans K9.out.2, Nat.le_refl _⟩
end
end Go.Proofs.YtnpebfolmdbipaaGreatDoor.Sk

namespace Go.Proofs.YtnpebfolmdbipaaGreatDoor.Sk
set_option maxRecDepth 8000
set_option linter.unusedVariables false
set_option linter.unusedSimpArgs false
open Go.RowKit Mem Go.ChangeMaps
open Dk (cod elem cod_inj elem_mk elem_inv key key_inj wf_key keyed3 MapIs Fr ptr hmf cell_alloc cell_alloc_new zero42 IsD Dsk Lay drewN_cell Kp ref_zero newD newY)
theorem enter63 (args : Array Value) (W : World) : (callFunc 60 args).run Tryz.prog W = .ok (.enter 60 args) W := by kernel_rfl
section
variable {w w' : World} {sb db : Nat} {y y' : SLay} {s s' : Sto} {yd : Lay} {d : Dsk}
set_option maxHeartbeats 1000000 in
theorem mark1_any {w0 : World} (h : IsS w sb y db s) (K : Ks w0 y w y) (hx : ∀ k, y.foot k → k < w0.heap.size) (p q : Addr) (v : Value) (hp : w.cell? p = some (pt sb)) (hq : w.cell? q = some v) (fq : w.frozen? q = false) (hq0 : w0.heap.size ≤ q.block) (hm : y.m < 1000000000) :
    Calls Tryz.prog 60 #[.pointer (some p), .pointer (some q)] w fun e w' => ∃ r, e = .returned (.int .i64 r) ∧ r = 0 ∧ ∃ y', IsS w' sb y' db s.mark ∧ Ks w0 y w' y' ∧ y'.m ≤ y.m + 1 ∧ w'.cell? q = some (.int .i64 ((s.marks.length : Int) + 1)) := by
  have MK := Lib.hid (cmark_any h hm)
  have hlt := Dk.lt_of_cell hq
  have hnf : ¬ y.foot q.block := fun e => by have := hx _ e; omega
  have KK := Lib.hid K
  have HX := Lib.hid hx
  have HQ := Lib.hid hq
  have FQ := Lib.hid fq
  have LT := Lib.hid hlt
  have NF := Lib.hid hnf
  have Q0 := Lib.hid hq0
  clear h K hx hq fq hlt hnf hq0
  go_enter Tryz.func60, Tryz.ntmps60
  go_wp2_with (go_at_call 61; refine MK.out.mono ?_; rintro e w1 ⟨rfl, y1, h1, k1, m1⟩; have f1 := k1.kf.free LT.out NF.out; have c1 := (World.cell?_of_block (a := q) f1.2).trans HQ.out; have g1 := (World.frozen?_of_block (a := q) f1.2).trans FQ.out; have H1 := Lib.hid h1; have K1 := Lib.hid k1; have N1 := Lib.hid f1.1; have C1 := Lib.hid c1; clear h1 k1 f1)
  go_ret
  refine ⟨_, rfl, rfl, y1, H1.out.poke N1.out _, ?_, m1, World.cell?_setCell_same w1 _ _ C1.out⟩
  exact (KK.out.trans K1.out).poke Q0.out HX.out _
def ansM (s : Sto) (d : Dsk) : Int := if gone s d then 0 else (s.marks.length : Int) + 1
def doM (s : Sto) (d : Dsk) : Sto := if gone s d then s else s.mark
set_option maxHeartbeats 1000000 in
theorem Mark_any (h : IsS w sb y db s) (hd : IsD w db yd d) (hm : y.m < 100000000) :
    Calls Tryz.prog 19 #[pt sb] w fun e w' => e = .returned (.int .i64 (ansM s d)) ∧ ∃ y', IsS w' sb y' db (doM s d) ∧ Ks w y w' y' ∧ y'.m ≤ y.m + 1 := by
  obtain ⟨W, hW⟩ : ∃ W, W = (w.alloc (.cells #[pt sb] 25)).alloc (.cells #[.int .i64 0] 3) := ⟨_, rfl⟩
  have hx : Bx2 w W (pt sb) (.int .i64 0) := hW ▸ bx2 w _ _ _ _
  have hI := h.below hx.bel
  have hD := hd.below hx.bel
  have HW := Lib.hid hW
  have K0 := Ks.ofBelow h hx.bel
  have hmk := hmf
  by_cases hg : gone s d = true
  · have e1 : ansM s d = 0 := if_pos hg
    have e2 : doM s d = s := if_pos hg
    rw [e1, e2]
    have HA := Lib.hid (ask_gone hI hD 60 #[.pointer (some ⟨w.heap.size, 0, none⟩), .pointer (some ⟨w.heap.size + 1, 0, none⟩)] (enter63 _) hg)
    have HI := Lib.hid hI
    have HK := Lib.hid K0
    have a2 := hx.c2
    clear hx hW hI hD h hd hg K0 e1 e2
    go_enter Tryz.func19, Tryz.ntmps19
    go_wp2_with (go_at_call 47; rw [← HW.out]; refine HA.out.mono ?_; rintro e w1 ⟨rfl, rfl⟩)
    go_ret
    exact ⟨rfl, y, HI.out, HK.out, Nat.le_succ _⟩
  · have hg' : gone s d = false := by simpa using hg
    have e1 : ansM s d = (s.marks.length : Int) + 1 := if_neg hg
    have e2 : doM s d = s.mark := if_neg hg
    rw [e1, e2]
    have HA := Lib.hid (ask_yes hI hD 60 #[.pointer (some ⟨w.heap.size, 0, none⟩), .pointer (some ⟨w.heap.size + 1, 0, none⟩)] (enter63 _) hg' (mark1_any (w0 := w) hI K0 (fun k hk => h.foot k hk) _ _ _ hx.c1 hx.c2 hx.f2 (by simp) (by omega)))
    clear hx hW hI hD h hd hg hg' K0 e1 e2
    go_enter Tryz.func19, Tryz.ntmps19
    go_wp2_with (go_at_call 47; rw [← HW.out]; refine HA.out.mono ?_; rintro e w1 ⟨r, rfl, rfl, y1, h1, k1, m1, c1⟩; have H1 := Lib.hid h1; have K1 := Lib.hid k1; clear h1 k1)
    go_ret
    exact ⟨rfl, y1, H1.out, K1.out, m1⟩
end
end Go.Proofs.YtnpebfolmdbipaaGreatDoor.Sk

namespace Go.Proofs.YtnpebfolmdbipaaGreatDoor.Sk
set_option maxRecDepth 8000
set_option linter.unusedVariables false
set_option linter.unusedSimpArgs false
open Go.RowKit Mem Go.ChangeMaps
open Dk (cod elem cod_inj elem_mk elem_inv key key_inj wf_key keyed3 MapIs Fr ptr hmf cell_alloc cell_alloc_new zero42 IsD Dsk Lay drewN_cell Kp ref_zero newD newY)
/-! ### What was done is taken back -/
section
variable {w w' : World} {sb db : Nat} {y y' : SLay} {s s' : Sto} {yd : Lay} {d : Dsk}
/-- A laying with another map of pages. -/
def SLay.at (y : SLay) (V : Nat → Option Value) (m : Nat) : SLay := { y with V := V, m := m }
theorem hold_at (h : IsS w sb y db s) (p : Nat) (hp : p < 4096) (v : Value) (l : List UInt8) (hv : SlAt w y.role v l) (hm : y.m < 1000000000) :
    Calls Tryz.prog 90 #[pt sb, .int .i64 p, v] w fun e w' => e = .returned (.tuple #[]) ∧ ∃ V m, IsS w' sb (y.at V m) db { s with cur := s.hold p l } ∧ Ks w y w' (y.at V m) ∧ m ≤ y.m + 1 := by
  obtain ⟨z, hz⟩ := cod_of_own hv.1
  have H := Lib.hid h
  have HV := Lib.hid hv
  clear h hv
  go_enter Tryz.func90, Tryz.ntmps90
  go_wp2_with (go_at_call 95; refine (sturn_any H.out p hp).mono ?_; rintro e w1 ⟨rfl, h1, k1⟩; have H1 := Lib.hid h1; have K1 := Lib.hid k1; have hc := h1.cfresh; obtain ⟨w2, hrun, hm2, ht2⟩ := h1.map.store (by unfold maxLen; omega) p hp v hz; have HM := Lib.hid hm2; have HT := Lib.hid ht2; clear h1 k1 hm2 ht2)
  first | go_end0 | (simp only [Exit.inBlock, Exit.then]; refine bodyPost_ret (results_none rfl _ _ _) rfl ?_) | refine bodyPost_ret (results_none rfl _ _ _) rfl ?_
  have hv1 := HV.out.ks K1.out
  obtain ⟨i2, k2⟩ := H1.out.setMap (f := s.cur.fresh.put p (some l)) HM.out HT.out (by omega) (fun q hq => by
    by_cases e : q = p
    · subst e; simp only [if_pos, put_same]; exact hv1
    · simp only [if_neg e, put_other _ _ e]; exact H1.out.freshOk q hq)
  exact ⟨rfl, _, _, i2, K1.out.trans k2, Nat.le_refl _⟩
theorem drop_at (h : IsS w sb y db s) (p : Nat) (hp : p < 4096) :
    Calls Tryz.prog 93 #[pt sb, .int .i64 p] w fun e w' => e = .returned (.tuple #[]) ∧ ∃ V m, IsS w' sb (y.at V m) db { s with cur := s.drop p } ∧ Ks w y w' (y.at V m) ∧ m ≤ y.m + 1 := by
  have H := Lib.hid h
  clear h
  go_enter Tryz.func93, Tryz.ntmps93
  go_wp2_with (go_at_call 95; refine (sturn_any H.out p hp).mono ?_; rintro e w1 ⟨rfl, h1, k1⟩; have H1 := Lib.hid h1; have K1 := Lib.hid k1; have hc := h1.cfresh; obtain ⟨w2, hrun, hm2, ht2⟩ := h1.map.drop p hp 0; have HM := Lib.hid hm2; have HT := Lib.hid ht2; clear h1 k1 hm2 ht2)
  first | go_end0 | (simp only [Exit.inBlock, Exit.then]; refine bodyPost_ret (results_none rfl _ _ _) rfl ?_) | refine bodyPost_ret (results_none rfl _ _ _) rfl ?_
  obtain ⟨i2, k2⟩ := H1.out.setMap (f := s.cur.fresh.put p none) HM.out HT.out (Nat.le_refl _) (fun q hq => by
    by_cases e : q = p
    · subst e; simp only [if_pos, put_same]; trivial
    · simp only [if_neg e, put_other _ _ e]; exact H1.out.freshOk q hq)
  exact ⟨rfl, _, _, i2, K1.out.trans k2, Nat.le_succ _⟩
theorem undo_drop (h : IsS w sb y db s) {c q p : Nat} (b1 : Box w y.role c (pt sb)) (b2 : Box w y.role q (.int .i64 (p : Int))) (hp : p < 4096) :
    Calls Tryz.prog 92 #[pt c, pt q] w fun e w' => e = .returned (.tuple #[]) ∧ ∃ V m, IsS w' sb (y.at V m) db { s with cur := Un.app s.cur (.drop p) } ∧ Ks w y w' (y.at V m) ∧ m ≤ y.m + 1 := by
  have DR := Lib.hid (drop_at h p hp)
  have c1 := b1.2
  have c2 := b2.2
  clear h b1 b2
  go_enter Tryz.func92, Tryz.ntmps92
  go_wp2_with (go_at_call 93; refine DR.out.mono ?_; rintro e w1 ⟨rfl, V1, n1, h1, k1, m1⟩; have H1 := Lib.hid h1; have K1 := Lib.hid k1; clear h1 k1)
  first | go_end0 | (simp only [Exit.inBlock, Exit.then]; refine bodyPost_ret (results_none rfl _ _ _) rfl ?_) | refine bodyPost_ret (results_none rfl _ _ _) rfl ?_
  exact ⟨rfl, V1, n1, H1.out, K1.out, m1⟩
theorem undo_root (h : IsS w sb y db s) {x c r : Nat} (b1 : Box w y.role x (.int .i64 (r : Int))) (b2 : Box w y.role c (pt sb)) :
    Calls Tryz.prog 96 #[pt x, pt c] w fun e w' => e = .returned (.tuple #[]) ∧ ∃ V m, IsS w' sb (y.at V m) db { s with cur := Un.app s.cur (.root r) } ∧ Ks w y w' (y.at V m) ∧ m ≤ y.m + 1 := by
  have HI := Lib.hid (h.setNowRoot r)
  have HK := Lib.hid (h.set_ks 0 (.int .i64 (r : Int)))
  have c1 := b1.2
  have c2 := b2.2
  have c0 := h.croot
  have f0 := h.frozen 0
  clear h b1 b2
  go_enter Tryz.func96, Tryz.ntmps96
  go_wp2
  first | go_end0 | (simp only [Exit.inBlock, Exit.then]; refine bodyPost_ret (results_none rfl _ _ _) rfl ?_) | refine bodyPost_ret (results_none rfl _ _ _) rfl ?_
  exact ⟨rfl, y.V, y.m, HI.out, HK.out, Nat.le_succ _⟩
theorem undo_hold (h : IsS w sb y db s) {f c q b p : Nat} {sv : Value} {l : List UInt8} (b0 : Box w y.role f (.bool true)) (b1 : Box w y.role c (pt sb)) (b2 : Box w y.role q (.int .i64 (p : Int))) (b3 : Box w y.role b sv) (hs : SlAt w y.role sv l) (hp : p < 4096) (hm : y.m < 1000000000) :
    Calls Tryz.prog 94 #[pt f, pt c, pt q, pt b] w fun e w' => e = .returned (.tuple #[]) ∧ ∃ V m, IsS w' sb (y.at V m) db { s with cur := Un.app s.cur (.give p (some l)) } ∧ Ks w y w' (y.at V m) ∧ m ≤ y.m + 1 := by
  have HO := Lib.hid (hold_at h p hp sv l hs hm)
  have c0 := b0.2
  have c1 := b1.2
  have c2 := b2.2
  have c3 := b3.2
  clear h b0 b1 b2 b3 hs
  go_enter Tryz.func94, Tryz.ntmps94
  go_wp2_with (go_at_call 90; refine HO.out.mono ?_; rintro e w1 ⟨rfl, V1, n1, h1, k1, m1⟩; have H1 := Lib.hid h1; have K1 := Lib.hid k1; clear h1 k1)
  first | go_end0 | (simp only [Exit.inBlock, Exit.then]; refine bodyPost_ret (results_none rfl _ _ _) rfl ?_) | refine bodyPost_ret (results_none rfl _ _ _) rfl ?_
  exact ⟨rfl, V1, n1, H1.out, K1.out, m1⟩
end
end Go.Proofs.YtnpebfolmdbipaaGreatDoor.Sk

namespace Go.Proofs.YtnpebfolmdbipaaGreatDoor.Sk
set_option maxRecDepth 8000
set_option linter.unusedVariables false
set_option linter.unusedSimpArgs false
open Go.RowKit Mem Go.ChangeMaps
open Dk (cod elem cod_inj elem_mk elem_inv key key_inj wf_key keyed3 MapIs Fr ptr hmf cell_alloc cell_alloc_new zero42 IsD Dsk Lay drewN_cell Kp ref_zero newD newY)
section
variable {w w' : World} {sb db : Nat} {y y' : SLay} {s s' : Sto} {yd : Lay} {d : Dsk}
theorem undo_turn (h : IsS w sb y db s) {f c q b p : Nat} (b0 : Box w y.role f (.bool false)) (b1 : Box w y.role c (pt sb)) (b2 : Box w y.role q (.int .i64 (p : Int))) (hp : p < 4096) :
    Calls Tryz.prog 94 #[pt f, pt c, pt q, pt b] w fun e w' => e = .returned (.tuple #[]) ∧ ∃ V m, IsS w' sb (y.at V m) db { s with cur := Un.app s.cur (.give p none) } ∧ Ks w y w' (y.at V m) ∧ m ≤ y.m + 1 := by
  have TU := Lib.hid (sturn_any h.drew p hp)
  have KD := Lib.hid (Ks.ofBelow h (Below.refl _ w).drew)
  have c0 := b0.2
  have c1 := b1.2
  have c2 := b2.2
  clear h b0 b1 b2
  go_enter Tryz.func94, Tryz.ntmps94
  go_wp2
  go_region_with (go_at_call 95; refine TU.out.mono ?_; rintro e w1 ⟨rfl, h1, k1⟩; have H1 := Lib.hid h1; have K1 := Lib.hid k1; clear h1 k1)
  all_goals
    go_wp2
    first | go_end0 | (simp only [Exit.inBlock, Exit.then]; refine bodyPost_ret (results_none rfl _ _ _) rfl ?_) | refine bodyPost_ret (results_none rfl _ _ _) rfl ?_
    exact ⟨rfl, y.V, y.m, H1.out, KD.out.trans K1.out, Nat.le_succ _⟩
/-- Any of them. -/
theorem undo_any (h : IsS w sb y db s) {v : Value} {u : Un} (hu : UnAt w y.role sb v u) (hm : y.m < 1000000000) :
    ∃ F cap, v = .func (.func F) #[] cap ∧ (∀ W, (callFunc F cap).run Tryz.prog W = .ok (.enter F cap) W) ∧ Calls Tryz.prog F cap w fun e w' => e = .returned (.tuple #[]) ∧ ∃ V m, IsS w' sb (y.at V m) db { s with cur := Un.app s.cur u } ∧ Ks w y w' (y.at V m) ∧ m ≤ y.m + 1 := by
  cases u with
  | drop p =>
    obtain ⟨c, q, rfl, h1, h2, h3⟩ := hu
    exact ⟨92, _, rfl, fun W => by kernel_rfl, undo_drop h h1 h2 h3⟩
  | root r =>
    obtain ⟨x, c, rfl, h1, h2⟩ := hu
    exact ⟨96, _, rfl, fun W => by kernel_rfl, undo_root h h1 h2⟩
  | give p o =>
    obtain ⟨f, c, q, b, sv, rfl, h1, h2, h3, h4, h5, h6⟩ := hu
    cases o with
    | none => exact ⟨94, _, rfl, fun W => by kernel_rfl, undo_turn h h1 h2 h3 h6⟩
    | some l => exact ⟨94, _, rfl, fun W => by kernel_rfl, undo_hold h h1 h2 h3 h4 (h5 l rfl) h6 hm⟩
end
end Go.Proofs.YtnpebfolmdbipaaGreatDoor.Sk

namespace Go.Proofs.YtnpebfolmdbipaaGreatDoor.Sk
set_option linter.unusedVariables false
set_option linter.unusedSimpArgs false
open Go.RowKit Mem
attribute [local go_sem] Oper.semAt_some

/-! ### slices.Backward over functions -/
theorem backward_any (A : Option Addr) (n c : Nat) (w : World) :
    Calls Tryz.prog 97 #[.slice A n c] w fun e w' => e = .returned (.func (.func 114) #[] #[.pointer (some ⟨w.heap.size, 0, none⟩)]) ∧ w' = w.alloc (.cells #[.slice A n c] 85) := by
  have hmf : ∀ (fn : Fn) (first cap : Array Value) (w : World), (Instr.makeFunc fn first cap).run Tryz.prog w = .ok (.func fn first cap) w := fun _ _ _ _ => rfl
  go_enter Tryz.func97, Tryz.ntmps97
  go_wp2
  go_ret
  exact ⟨rfl, rfl⟩
/-- What comes until j are left, the last one first. -/
def rv (n j : Nat) : List (Fin n) := (List.finRange n).reverse.take (n - j)
theorem length_rv (n j : Nat) : (rv n j).length = n - j := by simp [rv, List.length_take]
theorem rv_all (n : Nat) : rv n n = [] := by simp [rv]
theorem rv_succ (n j : Nat) (h : j < n) : rv n j = rv n (j + 1) ++ [⟨j, h⟩] := by
  unfold rv
  rw [show n - j = (n - (j + 1)) + 1 by omega, List.take_succ_eq_append_getElem (by simp; omega), List.getElem_reverse, List.getElem_finRange]
  congr 2
  apply Fin.ext
  simp
  omega
/-- What a round is handed. -/
def bencs (F : Nat → Value) (j : Nat) : Array Value := #[.int .i64 (j : Int), F j]
/-- What a round must keep: the box, and the cells. -/
def Kb (Bx g o n : Nat) (W W' : World) : Prop := W'.cell? ⟨Bx, 0, none⟩ = W.cell? ⟨Bx, 0, none⟩ ∧ ∀ j, j < n → W'.cell? ⟨g, o + j, none⟩ = W.cell? ⟨g, o + j, none⟩
theorem Kb.t {Bx g o n : Nat} {A B C : World} (h : Kb Bx g o n A B) (k : Kb Bx g o n B C) : Kb Bx g o n A C := ⟨k.1.trans h.1, fun j hj => (k.2 j hj).trans (h.2 j hj)⟩
theorem Kb.b {Bx g o n : Nat} {w : World} (hB : Bx < w.heap.size) (hg : 0 < n → g < w.heap.size) (W : World) (l : Nat) (ob o' : Obj) (hl : w.heap.size ≤ l) (_ : W.heap[l]? = some ob) (_ : ob.isCells = false) (_ : ob.isWalk = false) : Kb Bx g o n W (W.putObj l o') :=
  ⟨World.cell?_of_block (World.putObj_heap_other (by show Bx ≠ l; omega)), fun j hj => World.cell?_of_block (World.putObj_heap_other (by show g ≠ l; have := hg (by omega); omega))⟩

set_option maxRecDepth 100000 in
set_option maxHeartbeats 2000000 in
theorem backward1_in (n : Nat) (hn : 1 ≤ n) (l Bx g o N c : Nat) (hN : N ≤ 9223372036854775807) (F : Nat → Value) (J Jx : List (Fin N) → World → Prop) (hJd : ∀ pre W, J pre W → J pre W.drew)
    (hY : ∀ pre x W, J pre W → pre.length < N → YieldAt Fence.wide (n - 1) Tryz.prog l (bencs F x.1) W fun e W' =>
      (e = .returned (.bool true) ∧ J (pre ++ [x]) W' ∧ Kb Bx g o N W W') ∨ (e = .returned (.bool false) ∧ Jx (pre ++ [x]) W'))
    (W : World) (hBx : W.cell? ⟨Bx, 0, none⟩ = some (.slice (some ⟨g, o, none⟩) N c)) (hc : ∀ j, j < N → W.cell? ⟨g, o + j, none⟩ = some (F j)) (h0 : J [] W) :
    CallsIn Fence.wide n Tryz.prog 114 #[.func (.yield l) #[] #[], .pointer (some ⟨Bx, 0, none⟩)] W fun e W' => (∃ v, e = .returned v) ∧
      ((∃ ys, ys = rv N 0 ∧ J ys W') ∨ (∃ pre, True ∧ Jx pre W')) := by
  refine callsIn_of_wp Tryz.func114 rfl trivial ?_ rfl
  simp only [Tryz.ntmps114, List.size_toArray, List.length_cons, List.length_nil, Nat.reduceAdd, Nat.reduceSub, Array.replicate_succ, Array.replicate_zero, List.push_toArray, List.append_toArray, List.nil_append, List.cons_append]
  gi_wp2
  gi_loopw [3] (fun i wr => ∃ j : Nat, j ≤ N ∧ i = .int .i64 ((j : Int) - 1) ∧ J (rv N j) wr ∧ wr.cell? ⟨Bx, 0, none⟩ = some (.slice (some ⟨g, o, none⟩) N c) ∧ ∀ k, k < N → wr.cell? ⟨g, o + k, none⟩ = some (F k)) (fun i _ => (intOf i + 1).toNat)
  case atStart => exact ⟨N, Nat.le_refl _, rfl, by rw [rv_all]; exact h0, hBx, hc⟩
  case round =>
    obtain ⟨j1, hj1, rfl, hJs, hBr, hcr⟩ := hrel
    rcases j1 with _ | j
    · gi_wp2
      go_end0
      exact ⟨⟨_, rfl⟩, .inl ⟨_, rfl, hJs⟩⟩
    · have hlt : j < N := by omega
      obtain ⟨fn, tmps, assign, body, hy, hR⟩ := hY _ ⟨j, hlt⟩ wr hJs (by rw [length_rv]; omega)
      dsimp only [bencs] at hy
      have hR2 := Lib.hid hR
      have hcj := hcr j hlt
      have hCR := Lib.hid hcr
      clear hR hY hcr
      rw [show ((j + 1 : Nat) : Int) - 1 = (j : Int) by omega]
      have hji : (j : Int) < (N : Int) := by omega
      gi_wp2_with (refine hR2.out.mono ?_; rintro e W3 h3; obtain ⟨b, rfl, h4⟩ : ∃ b : Bool, e = .returned (.bool b) ∧ ((b = true ∧ J (rv N (j + 1) ++ [⟨j, hlt⟩]) W3 ∧ Kb Bx g o N wr W3) ∨ (b = false ∧ Jx (rv N (j + 1) ++ [⟨j, hlt⟩]) W3)) := by (rcases h3 with ⟨rfl, h5⟩ | ⟨rfl, h5⟩; exact ⟨_, rfl, .inl ⟨rfl, h5⟩⟩; exact ⟨_, rfl, .inr ⟨rfl, h5⟩⟩))
      · rename_i hb
        rcases h4 with ⟨rfl, _⟩ | ⟨rfl, hJx3⟩
        · cases hb
        · gi_wp2
          refine bodyPost_ret (results_none rfl _ _ _) rfl ?_
          exact ⟨⟨_, rfl⟩, .inr ⟨_, hJx3⟩⟩
      · rename_i hb
        rcases h4 with ⟨rfl, hJ3, hB3⟩ | ⟨rfl, _⟩
        · refine ⟨⟨j, by omega, rfl, by rw [rv_succ N j hlt]; exact hJ3, hB3.1.trans hBr, fun k hk => (hB3.2 k hk).trans (hCR.out k hk)⟩, ?_⟩
          simp [intOf]
        · cases hb
set_option maxRecDepth 100000 in
set_option maxHeartbeats 1000000 in
theorem backward0_in (n : Nat) (hn : 1 ≤ n) (l Bx c : Nat) (A : Option Addr) (J : List (Fin 0) → World → Prop)
    (W : World) (hBx : W.cell? ⟨Bx, 0, none⟩ = some (.slice A 0 c)) (h0 : J [] W) :
    CallsIn Fence.wide n Tryz.prog 114 #[.func (.yield l) #[] #[], .pointer (some ⟨Bx, 0, none⟩)] W fun e W' => (∃ v, e = .returned v) ∧ J [] W' := by
  refine callsIn_of_wp Tryz.func114 rfl trivial ?_ rfl
  simp only [Tryz.ntmps114, List.size_toArray, List.length_cons, List.length_nil, Nat.reduceAdd, Nat.reduceSub, Array.replicate_succ, Array.replicate_zero, List.push_toArray, List.append_toArray, List.nil_append, List.cons_append]
  gi_wp2
  gi_loopw [3] (fun i wr => i = .int .i64 (-1) ∧ J [] wr) (fun i _ => (intOf i + 1).toNat)
  case atStart => exact ⟨rfl, h0⟩
  case round =>
    obtain ⟨rfl, hJs⟩ := hrel
    gi_wp2
    go_end0
    exact ⟨⟨_, rfl⟩, hJs⟩
theorem abides_drew' {n : Nat} {J : List (Fin n) → World → Prop} {B : Nat} (h : AbidesFrom B J) (pre : List (Fin n)) (W : World) (hJ : J pre W) : J pre W.drew :=
  h pre W W.drew none hJ (grownBy_below none ((Below.refl _ W).drew)) (fun _ e => by cases e)
/-- The iterator over functions, the last one first. -/
theorem backward_stops (n : Nat) (hn : 1 ≤ n) (Bx g o N c : Nat) (A : Option Addr) (hA : 0 < N → A = some ⟨g, o, none⟩) (hN : N ≤ 9223372036854775807) (F : Nat → Value) (w : World) (hB : Bx < w.heap.size) (hg : 0 < N → g < w.heap.size) (hBx : w.cell? ⟨Bx, 0, none⟩ = some (.slice A N c)) (hc : ∀ j, j < N → w.cell? ⟨g, o + j, none⟩ = some (F j)) :
    SeqStopsK Fence.wide n Tryz.prog 114 #[.pointer (some ⟨Bx, 0, none⟩)] (fun x : Fin N => bencs F x.1) (Kb Bx g o N) (fun ys => ys = rv N 0) (fun _ => True) N w := fun l J Jx W hW hJ _ hY h0 => by
  rcases Nat.eq_zero_or_pos N with rfl | hp
  · refine (backward0_in n hn l Bx c A J W ((hW.cell (p := ⟨Bx, 0, none⟩) hB).trans hBx) h0).mono ?_
    rintro e W' ⟨he, h⟩
    exact ⟨he, .inl ⟨[], rfl, h⟩⟩
  · rw [hA hp] at hBx
    refine (backward1_in n hn l Bx g o N c hN F J Jx (abides_drew' hJ) hY W ((hW.cell (p := ⟨Bx, 0, none⟩) hB).trans hBx) (fun j hj => (hW.cell (p := ⟨g, o + j, none⟩) (hg hp)).trans (hc j hj)) h0).mono ?_
    rintro e W' ⟨he, h⟩
    exact ⟨he, h⟩
end Go.Proofs.YtnpebfolmdbipaaGreatDoor.Sk

namespace Go.Proofs.YtnpebfolmdbipaaGreatDoor.Sk
set_option maxRecDepth 8000
set_option linter.unusedVariables false
set_option linter.unusedSimpArgs false
open Go.RowKit Mem Go.ChangeMaps
open Dk (cod elem cod_inj elem_mk elem_inv key key_inj wf_key keyed3 MapIs Fr ptr hmf cell_alloc cell_alloc_new zero42 IsD Dsk Lay drewN_cell Kp ref_zero newD newY)
/-! ### change.back: as data -/
def unapp (s : Sto) (a : Nat) (v : Vw) (x : Nat) : Vw := match s.us[a + x]? with
  | some u => Un.app v u.1
  | none => v
def backs (s : Sto) (a : Nat) {N : Nat} (pre : List (Fin N)) : Vw := pre.foldl (fun v x => unapp s a v x.1) s.cur
theorem backs_snoc (s : Sto) (a : Nat) {N : Nat} (pre : List (Fin N)) (x : Fin N) : backs s a (pre ++ [x]) = unapp s a (backs s a pre) x.1 := by simp [backs]
theorem backs_rv {s : Sto} (hg : SGood s) {a N : Nat} (h : a + N = s.us.length) : ∀ k, k ≤ N → backs s a (rv N (N - k)) = s.view (a + (N - k)) := by
  intro k
  induction k with
  | zero => intro _; rw [Nat.sub_zero, rv_all, h, view_len]; rfl
  | succ k ih =>
    intro hk
    have hlt : N - (k + 1) < N := by omega
    rw [rv_succ N _ hlt, show N - (k + 1) + 1 = N - k by omega, backs_snoc, ih (by omega)]
    have hx : a + (N - (k + 1)) < s.us.length := by omega
    have e := List.getElem?_eq_getElem hx
    have hc := hg.chain _ _ e
    unfold unapp
    rw [e]
    rw [show a + (N - (k + 1)) + 1 = a + (N - k) by omega] at hc
    show Un.app (s.view (a + (N - k))) _ = _
    rw [hc]
    unfold Sto.view
    rw [e]
theorem backs_all {s : Sto} (hg : SGood s) {a N : Nat} (h : a + N = s.us.length) : backs s a (rv N 0) = s.view a := by
  have := backs_rv hg h N (Nat.le_refl _)
  rwa [Nat.sub_self] at this
theorem mcs_at (l : List (Nat × Bool)) (m : Nat) (x : Nat × Bool) (h : l[m]? = some x) : (mcs l)[2 * m]? = some (.int .i64 (x.1 : Int)) ∧ (mcs l)[2 * m + 1]? = some (.bool x.2) := by
  induction l generalizing m with
  | nil => simp at h
  | cons y l ih =>
    cases m with
    | zero => simp at h; subst h; exact ⟨rfl, rfl⟩
    | succ m =>
      have := ih m (by simpa using h)
      rw [show 2 * (m + 1) = 2 * m + 1 + 1 by omega]
      simpa [mcs] using this
theorem length_mcs (l : List (Nat × Bool)) : (mcs l).length = 2 * l.length := by
  induction l with
  | nil => rfl
  | cons y l ih => simp [mcs, ih]; omega
theorem mcs_take (l : List (Nat × Bool)) (m : Nat) : mcs (l.take m) = (mcs l).take (2 * m) := by
  induction l generalizing m with
  | nil => simp [mcs]
  | cons y l ih =>
    cases m with
    | zero => simp [mcs]
    | succ m => rw [List.take_succ_cons, show 2 * (m + 1) = 2 * m + 1 + 1 by omega]; simp [mcs, ih]

/-! ### Slices cut -/
theorem owns_form {w : World} {e size : Nat} {base n : Nat} {v : Value} {xs : List Value} (h : w.ownsRow base e size v n xs) : (v = .slice none 0 0 ∧ n = 0) ∨ ∃ g c, v = .slice (some ⟨g, 0, none⟩) n c ∧ n ≤ c ∧ c ≤ maxLen ∧ g < w.heap.size := by
  rcases h.2 with h1 | ⟨g, c, cur, rfl, _, hb, h2, h3, _⟩
  · exact .inl h1
  · exact .inr ⟨g, c, rfl, h2, h3, (Array.getElem?_eq_some_iff.1 hb).1⟩
theorem owns_cut {w : World} {e size : Nat} {base n c a : Nat} {A : Option Addr} {xs : List Value} (h : w.ownsRow base e size (.slice A n c) n xs) (ha : a ≤ n) : w.ownsRow base e size (.slice A a c) a (xs.take (a * size)) := by
  have hl := h.1
  have hm : a * size ≤ n * size := Nat.mul_le_mul_right _ ha
  refine ⟨by rw [List.length_take]; omega, ?_⟩
  rcases h.2 with ⟨h1, h2⟩ | ⟨g, cap, cur, h1, hb, hh, h3, h4, h5, h6⟩
  · injection h1 with e1 e2 e3
    subst e1; subst e2; subst e3
    exact .inl ⟨by rw [Nat.le_zero.1 ha], Nat.le_zero.1 ha⟩
  · injection h1 with e1 e2 e3
    subst e1; subst e3
    exact .inr ⟨g, c, cur, rfl, hb, hh, by omega, h4, h5, by rw [← h6, List.take_take, Nat.min_eq_left hm]⟩
theorem sz1 (W : World) : (Go.sizeOf 1).run Tryz.prog W = .ok 1 W := by kernel_rfl
theorem sz116 (W : World) : (Go.sizeOf 116).run Tryz.prog W = .ok 2 W := by kernel_rfl
theorem cut_hi {A : Option Addr} {n c a : Nat} (hc : (A = none ∧ n = 0 ∧ c = 0) ∨ (∃ g, A = some ⟨g, 0, none⟩) ∧ n ≤ c ∧ c ≤ maxLen) (ha : a ≤ n) (W : World) :
    (Instr.sliceAt 85 (.slice A n c) none (some (.int .i64 (a : Int))) none).run Tryz.prog W = .ok (.slice A a c) W ∧ (Instr.sliceAt 84 (.slice A n c) none (some (.int .i64 (a : Int))) none).run Tryz.prog W = .ok (.slice A a c) W := by
  have h1 := sz1 W
  have h2 := sz116 W
  rcases hc with ⟨rfl, rfl, rfl⟩ | ⟨⟨g, rfl⟩, h3, h4⟩
  · obtain rfl : a = 0 := by omega
    constructor <;> go_simp
  · have f1 : (a : Int) ≤ (c : Int) := by omega
    constructor <;> go_simp
theorem cut_lo {A : Option Addr} {n c a : Nat} (hc : (A = none ∧ n = 0 ∧ c = 0) ∨ (∃ g, A = some ⟨g, 0, none⟩) ∧ n ≤ c ∧ c ≤ maxLen) (ha : a ≤ n) :
    ∃ At, (∀ W, (Instr.sliceAt 85 (.slice A n c) (some (.int .i64 (a : Int))) none none).run Tryz.prog W = .ok (.slice At (n - a) (c - a)) W) ∧ (0 < n - a → ∃ g, A = some ⟨g, 0, none⟩ ∧ At = some ⟨g, a, none⟩) := by
  rcases hc with ⟨rfl, rfl, rfl⟩ | ⟨⟨g, rfl⟩, h3, h4⟩
  · obtain rfl : a = 0 := by omega
    refine ⟨none, fun W => ?_, fun h => by omega⟩
    have h1 := sz1 W
    go_simp
  · have f1 : (a : Int) ≤ (n : Int) := by omega
    by_cases e : c = a
    · subst e
      refine ⟨some ⟨g, 0, none⟩, fun W => ?_, fun h => by omega⟩
      have h1 := sz1 W
      go_simp
    · refine ⟨some ⟨g, a, none⟩, fun W => ?_, fun _ => ⟨g, rfl, rfl⟩⟩
      have h1 := sz1 W
      go_simp

/-! ### clear -/
theorem zv1 (w : World) : (zeroValue 1).run Tryz.prog w = .ok .nilFunc w := by kernel_rfl
/-- What clear leaves of a row and of all else. -/
structure Clr (g o : Nat) (w w' : World) : Prop where
  os : w'.os = w.os
  tape : w'.tape = w.tape
  output : w'.output = w.output
  size : w'.heap.size = w.heap.size
  other : ∀ k, k ≠ g → w'.heap[k]? = w.heap[k]?
  row : ∀ cs t, w.heap[g]? = some (.cells cs t (0, 0)) → ∃ cs', w'.heap[g]? = some (.cells cs' t (0, 0)) ∧ cs'.size = cs.size ∧ ∀ n, n ≤ o → cs'.toList.take n = cs.toList.take n
theorem Clr.refl (g o : Nat) (w : World) : Clr g o w w := ⟨rfl, rfl, rfl, rfl, fun _ _ => rfl, fun cs t h => ⟨cs, h, rfl, fun _ _ => rfl⟩⟩
theorem clr_setCells (g : Nat) : ∀ (vs : List Value) (o : Nat) (w : World), Clr g o w (w.setCells g o vs)
  | [], o, w => Clr.refl g o w
  | v :: r, o, w => by
    have h := clr_setCells g r (o + 1) (w.setCell ⟨g, o, none⟩ v)
    refine ⟨h.os, h.tape, h.output, h.size.trans (by simp [World.setCell]), fun k hk => (h.other k hk).trans (Below.heap_setCell _ _ _ _ hk), fun cs t e => ?_⟩
    obtain ⟨cs', e1, e2, e3⟩ := h.row (cs.setIfInBounds o v) t (heap_setCell_same w g o cs t v e)
    refine ⟨cs', e1, by rw [e2]; simp, fun n hn => ?_⟩
    rw [e3 n (by omega), Array.toList_setIfInBounds, List.take_set_of_le hn]
theorem owns_clr {w w' : World} {g o e : Nat} {base n c a : Nat} {A : Option Addr} {xs : List Value} (h : w.ownsRow base e 1 (.slice A n c) n xs) (hA : A = some ⟨g, 0, none⟩) (k : Clr g o w w') (ho : a ≤ o) (ha : a ≤ n) : w'.ownsRow base e 1 (.slice A a c) a (xs.take a) := by
  have h2 := owns_cut h ha
  rw [Nat.mul_one] at h2
  subst hA
  rcases h2.2 with ⟨h1, _⟩ | ⟨g', cap, cur, h1, hb, hh, h3, h4, h5, h6⟩
  · cases h1
  · injection h1 with e1 e2 e3
    injection e1 with e1; injection e1 with e1
    subst e1; subst e3
    obtain ⟨cs', i1, i2, i3⟩ := k.row _ _ hh
    exact ⟨h2.1, .inr ⟨g, c, cs', rfl, hb, i1, h3, h4, by rw [i2, h5], by rw [i3 _ (by omega), h6]⟩⟩
theorem clear_any {At : Option Addr} {N c' g a : Nat} {W : World} (hAt : 0 < N → At = some ⟨g, a, none⟩) (hc : ∀ j, j < N → (W.cell? ⟨g, a + j, none⟩).isSome = true) (hf : ∀ j, j < N → W.frozen? ⟨g, a + j, none⟩ = false) :
    ∃ W', (∀ ty, (Builtin.clear_ #[85] ty #[.slice At N c']).run Tryz.prog W = .ok (.tuple #[]) W') ∧ Clr g a W W' ∧ (N = 0 → W' = W) := by
  rcases Nat.eq_zero_or_pos N with rfl | hp
  · refine ⟨W, fun ty => ?_, Clr.refl _ _ _, fun _ => rfl⟩
    cases At <;> simp [Builtin.clear_, run_underlying Tryz.underlying85]
  · refine ⟨_, fun ty => ?_, clr_setCells g (List.replicate N .nilFunc) a W, fun e => by omega⟩
    rw [hAt hp]
    exact Lib.run_clear_slice W 85 1 ty .nilFunc Tryz.underlying85 zv1 rfl rfl g a N c' hp hc hf
/-- Marks and undo cut. -/
theorem IsS.cut3 {W W3 : World} {sb db : Nat} {y : SLay} {s : Sto} (h : IsS W sb y db s) {A Am : Option Addr} {n c nm cm a m : Nat} {ch : Bool} (huv : y.uv = .slice A n c) (hmv : y.mv = .slice Am nm cm) (ha : a ≤ s.us.length) (hm : m ≤ s.marks.length) (hs : W.heap.size ≤ W3.heap.size)
    (hrow : W3.rowIs sb 89 1034 (scell { y with mv := .slice Am m cm, uv := .slice A a c, U := y.U.take a } db { s with us := s.us.take a, marks := s.marks.take m, changed := ch }))
    (hk : ∀ k r, y.role k = some r → r ≠ .store → r ≠ .undo → W3.heap[k]? = W.heap[k]?) (hundo : W3.ownsRow 0 1 1 (.slice A a c) a (y.U.take a)) :
    IsS W3 sb { y with mv := .slice Am m cm, uv := .slice A a c, U := y.U.take a } db { s with us := s.us.take a, marks := s.marks.take m, changed := ch } :=
  have hcs : ∀ k, y.role k = some .const → W3.heap[k]? = W.heap[k]? := fun k e => hk k _ e (by simp) (by simp)
  { row := hrow, map := h.map.of_block (hk _ _ h.rf (by simp) (by simp)), freshOk := fun p hp => (h.freshOk p hp).of_block hcs
    marksOk := by
      have h1 := Dk.owns_of_block h.marksOk (w' := W3) fun k e => hk k _ (h.rm k e) (by simp) (by simp)
      rw [hmv] at h1
      have hn : nm = s.marks.length := by
        rcases h1.2 with ⟨e1, e2⟩ | ⟨g, cap, cur, e1, _⟩
        · injection e1 with _ e1 _; omega
        · injection e1
      subst hn
      have h2 := owns_cut h1 hm
      show W3.ownsRow 0 116 2 _ (s.marks.take m).length (mcs (s.marks.take m))
      rw [mcs_take, List.length_take, Nat.min_eq_left hm, Nat.mul_comm 2 m]
      exact h2
    undoOk := by
      show W3.ownsRow 0 1 1 _ (s.us.take a).length _
      rw [List.length_take, Nat.min_eq_left ha]
      exact hundo
    unAt := fun i v x h1 h2 => by
      have hi : i < a := by
        have := (List.getElem?_eq_some_iff.1 h2).1
        rw [List.length_take] at this; omega
      refine (h.unAt i v x ?_ ?_).of_block hcs
      · rwa [show ({ y with mv := .slice Am m cm, uv := .slice A a c, U := y.U.take a } : SLay).U = y.U.take a from rfl, List.getElem?_take_of_lt hi] at h1
      · rwa [show ({ s with us := s.us.take a, marks := s.marks.take m, changed := ch } : Sto).us = s.us.take a from rfl, List.getElem?_take_of_lt hi] at h2
    rs := h.rs, rf := h.rf
    rm := fun k e => h.rm k (by rw [hmv]; cases Am <;> exact e), ru := fun k e => h.ru k (by rw [huv]; cases A <;> exact e)
    foot := fun k e => Nat.lt_of_lt_of_le (h.foot k e) hs
    usLen := by have := h.usLen; show (s.us.take a).length ≤ y.m; rw [List.length_take]; omega
    msLen := by have := h.msLen; show (s.marks.take m).length ≤ y.m; rw [List.length_take]; omega }
end Go.Proofs.YtnpebfolmdbipaaGreatDoor.Sk

namespace Go.Proofs.YtnpebfolmdbipaaGreatDoor.Sk
set_option maxRecDepth 8000
set_option linter.unusedVariables false
set_option linter.unusedSimpArgs false
open Go.RowKit Mem Go.ChangeMaps
open Dk (cod elem cod_inj elem_mk elem_inv key key_inj wf_key keyed3 MapIs Fr ptr hmf cell_alloc cell_alloc_new zero42 IsD Dsk Lay drewN_cell Kp ref_zero newD newY)
attribute [local go_sem] Oper.semAt_some
theorem add0 (g j : Nat) : (⟨g, 0, none⟩ : Addr).add j = ⟨g, j, none⟩ := by unfold Addr.add; split <;> simp_all
section
variable {w W W' : World} {sb db : Nat} {y z : SLay} {s : Sto}
/-- What turns nothing that lay when the call began. -/
theorem Ks.low (h : Ks w y W z) (hc : ∀ k, y.foot k → k < w.heap.size) (ho : W'.os = W.os) (ht : W'.tape = W.tape) (hu : W'.output = W.output) (hs : W.heap.size ≤ W'.heap.size) (hk : ∀ k, k < w.heap.size → W'.heap[k]? = W.heap[k]?) : Ks w y W' z :=
  ⟨⟨⟨ho.trans h.kf.fr.os, ht.trans h.kf.fr.tape, hu.trans h.kf.fr.output, Nat.le_trans h.kf.fr.size hs, fun k h1 h2 => (hk k h1).trans (h.kf.fr.block k h1 h2)⟩, h.kf.foot⟩,
   fun k h1 => ⟨(hk k (hc k (by simp [SLay.foot, h1]))).trans (h.cs k h1).1, (h.cs k h1).2⟩⟩
theorem at_role (y : SLay) (V : Nat → Option Value) (m : Nat) : (y.at V m).role = y.role := rfl
theorem at_foot (y : SLay) (V : Nat → Option Value) (m : Nat) : (y.at V m).foot = y.foot := rfl
/-- The state between two rounds. -/
def BI (w W0 : World) (sb db : Nat) (y : SLay) (s : Sto) (a N : Nat) (pre : List (Fin N)) (W : World) : Prop :=
  (∃ V n, IsS W sb (y.at V n) db { s with cur := backs s a pre } ∧ Ks w y W (y.at V n) ∧ n ≤ y.m + pre.length) ∧ ∀ k, w.heap.size ≤ k → k < w.heap.size + 2 → W.heap[k]? = W0.heap[k]?
theorem bi_own {w W0 : World} {sb db : Nat} {y : SLay} {s : Sto} {a N : Nat} (hs : w.heap.size + 2 ≤ W0.heap.size) (hf : ∀ k, y.foot k → k < w.heap.size) : OwnFrom W0.heap.size (BI w W0 sb db y s a N) := by
  rintro pre X Y row ⟨⟨V, n, h1, h2, h3⟩, h4⟩ hg hr
  have hb : ∀ k, k < w.heap.size + 2 → k < X.heap.size → Y.heap[k]? = X.heap[k]? := fun k hk hx => hg.block k hx (fun e => by have := (hr k e.symm).1; omega)
  have hx : w.heap.size ≤ X.heap.size := h2.kf.fr.size
  refine ⟨⟨V, n, h1.keep hg.size fun k hk => hb k (by have := hf k hk; omega) (by have := hf k hk; omega), h2.low hf hg.os hg.tape hg.output hg.size fun k hk => hb k (by omega) (by omega), h3⟩, fun k hk1 hk2 => ?_⟩
  have e := h4 k hk1 hk2
  have hlt : k < X.heap.size := by
    have hw : k < W0.heap.size := by omega
    rw [Array.getElem?_eq_getElem hw] at e
    exact (Array.getElem?_eq_some_iff.1 e).1
  exact (hb k hk2 hlt).trans e
end
set_option maxRecDepth 100000 in
set_option maxHeartbeats 4000000 in
theorem cback_any {w : World} {sb db : Nat} {y : SLay} {s : Sto} (h : IsS w sb y db s) (hg : SGood s) (m : Nat) (hm : m < s.marks.length) (hym : y.m + s.us.length < 1000000000) :
    Calls Tryz.prog 63 #[pt sb, .int .i64 ((m : Int) + 1)] w fun e w' => e = .returned (.tuple #[]) ∧ ∃ y', IsS w' sb y' db (s.back m) ∧ Ks w y w' y' ∧ y'.m ≤ y.m + s.us.length := by
  obtain ⟨x, hx⟩ : ∃ x, s.marks[m]? = some x := ⟨_, List.getElem?_eq_getElem hm⟩
  obtain ⟨a, ch⟩ := x
  have hle : a ≤ s.us.length := hg.mark m _ hx
  have c4 := h.cmarks
  have c5 := h.cundo
  obtain ⟨x1, x2⟩ := mcs_at _ _ _ hx
  rcases owns_form h.marksOk with ⟨_, e0⟩ | ⟨gm, cm, hmv, hm1, hm2, hm3⟩
  · omega
  have q1 := h.marksOk.cells (g := gm) (by rw [hmv]; rfl) _ _ x1
  have q2 := h.marksOk.cells (g := gm) (by rw [hmv]; rfl) _ _ x2
  rw [add0, Nat.mul_comm] at q1 q2
  rw [hmv] at c4
  obtain ⟨A, c, huv⟩ := own_len' h.undoOk
  have hmI : (m : Int) < (s.marks.length : Int) := by omega
  have hw1 : wrap64 (m : Int) = m := by have := h.msLen; unfold wrap64; omega
  have h116 := sz116
  refine (callsIn_wide (n := 6)).1 ?_
  refine callsIn_of_wp_marks Tryz.func63 rfl trivial ?_ rfl
  simp only [Tryz.ntmps63, List.size_toArray, List.length_cons, List.length_nil, Nat.reduceAdd, Nat.reduceSub, Array.replicate_succ, Array.replicate_zero, List.push_toArray, List.append_toArray, List.nil_append, List.cons_append]
  have H := Lib.hid h
  have HG := Lib.hid hg
  clear h hg
  gi_wp2_with fail
  obtain ⟨W1, hW1⟩ : ∃ W1, W1 = w.alloc (.cells #[.int .i64 (a : Int), .bool ch] 116) := ⟨_, rfl⟩
  have d5 : W1.cell? ⟨sb, 1029, none⟩ = some (.slice A s.us.length c) := by rw [hW1, ← huv]; exact (H.out.alloc _).cundo
  have e0 : W1.cell? ⟨w.heap.size, 0, none⟩ = some (.int .i64 (a : Int)) := by rw [hW1, cell_of_row _ _ _ _ _ _ (heap_alloc_new w _)]; rfl
  have e1 : W1.cell? ⟨w.heap.size, 1, none⟩ = some (.bool ch) := by rw [hW1, cell_of_row _ _ _ _ _ _ (heap_alloc_new w _)]; rfl
  have hform : (A = none ∧ s.us.length = 0 ∧ c = 0) ∨ (∃ g, A = some ⟨g, 0, none⟩) ∧ s.us.length ≤ c ∧ c ≤ maxLen := by
    rcases owns_form H.out.undoOk with ⟨h1, h2⟩ | ⟨g, c', h1, h2, h3, _⟩
    · rw [huv] at h1; injection h1 with i1 i2 i3; exact .inl ⟨i1, i2, i3⟩
    · rw [huv] at h1; injection h1 with i1 i2 i3; subst i3; exact .inr ⟨⟨g, i1⟩, h2, h3⟩
  obtain ⟨At, hlo, hAt⟩ := cut_lo hform hle
  have HF := Lib.hid hform
  have HA := Lib.hid hAt
  have HW1 := Lib.hid hW1
  have HUV := Lib.hid huv
  have HMV := Lib.hid hmv
  have HX := Lib.hid hx
  have HM3 := Lib.hid (And.intro hm1 (And.intro hm2 hm3))
  rw [← hW1]
  clear hform hAt hW1 huv hmv hx q1 q2 c4 c5 x1 x2 hm1 hm2 hm3 h116 hw1
  gi_quiet (fail)
  gi_wp2_with (refine ⟨trivial, ?_⟩; gi_at_call 97; refine (callsIn_wide.2 (backward_any _ _ _ _)).mono ?_; rintro e w' ⟨rfl, rfl⟩)
  have hsz : (W1.drewN nq).heap.size = w.heap.size + 1 := by rw [show (W1.drewN nq).heap = W1.heap from (World.drewN_alike W1 nq).1, HW1.out]; simp
  obtain ⟨V1, hV1⟩ : ∃ V1, V1 = W1.drewN nq := ⟨_, rfl⟩
  rw [← hV1] at hsz ⊢
  obtain ⟨W0, hW0⟩ : ∃ W0, V1.alloc (.cells #[.slice At (s.us.length - a) (c - a)] 85) = W0 := ⟨_, rfl⟩
  have hs1 : W1.heap.size = w.heap.size + 1 := by rw [HW1.out]; simp
  rw [hW0, hs1]
  have hs0 : W0.heap.size = w.heap.size + 2 := by rw [← hW0, World.size_alloc, hsz]
  have hBV : Below w.heap.size w V1 := by
    rw [hV1]
    refine below_drewN ?_ nq
    rw [HW1.out]
    exact (Below.refl _ w).alloc (Nat.le_refl _) _
  have hB0 : Below w.heap.size w W0 := by rw [← hW0]; exact hBV.alloc (by omega) _
  have hbox : Boxed W0 (w.heap.size + 1) 85 (.slice At (s.us.length - a) (c - a)) := by
    rw [← hW0]
    have := Boxed.new V1 85 (.slice At (s.us.length - a) (c - a))
    rwa [hsz] at this
  have hown : W0.heap[w.heap.size]? = some (.cells #[.int .i64 (a : Int), .bool ch] 116 (0, 0)) := by
    rw [← hW0]
    refine (Below.heap_alloc _ _ _ (by omega)).trans ?_
    rw [hV1, show (W1.drewN nq).heap = W1.heap from (World.drewN_alike W1 nq).1, HW1.out]
    exact heap_alloc_new w _
  obtain ⟨F, hF⟩ : ∃ F : Nat → Value, F = fun j => (y.U[a + j]?).getD .nilFunc := ⟨_, rfl⟩
  obtain ⟨g, hgA⟩ : ∃ g, 0 < s.us.length - a → A = some ⟨g, 0, none⟩ ∧ At = some ⟨g, a, none⟩ := by
    by_cases hp : 0 < s.us.length - a
    · obtain ⟨g, h1, h2⟩ := HA.out hp
      exact ⟨g, fun _ => ⟨h1, h2⟩⟩
    · exact ⟨0, fun h => absurd h hp⟩
  have hUl : y.U.length = s.us.length := by have := H.out.undoOk.1; omega
  have hI0 := H.out.below hB0
  have hcells : ∀ (X : World) (V : Nat → Option Value) (n : Nat) (s' : Sto), s'.us = s.us → IsS X sb (y.at V n) db s' → ∀ j, j < s.us.length - a → X.cell? ⟨g, a + j, none⟩ = some (F j) := fun X V n s' es hX j hj => by
    have hA2 := (hgA (by omega)).1
    have hu : y.U[a + j]? = some (F j) := by
      rw [hF]; simp only []; rw [List.getElem?_eq_getElem (by omega)]; rfl
    have hr : (y.at V n).uv.ownBlock = some g := by show y.uv.ownBlock = _; rw [HUV.out, hA2]; rfl
    have := hX.undoOk.cells (g := g) hr _ _ hu
    rwa [add0] at this
  have hU : ∀ j, j < s.us.length - a → y.U[a + j]? = some (F j) := fun j hj => by
    rw [hF]; simp only []; rw [List.getElem?_eq_getElem (by omega)]; rfl
  have HU := Lib.hid hU
  clear hF hU
  have hglt : 0 < s.us.length - a → g < W0.heap.size := fun hp => by
    have := H.out.ru g (by rw [HUV.out, (hgA hp).1]; rfl)
    have := H.out.foot g (by simp [SLay.foot, this])
    omega
  have hN : s.us.length - a ≤ 9223372036854775807 := by omega
  have hfoot := H.out.foot
  refine wpIn_rangeFunc_ownG rfl (by omega) (gf := 114) (lb := #[.pointer (some ⟨w.heap.size + 1, 0, none⟩)]) rfl trivial (enters_of Tryz.func114 (by kernel_rfl) rfl)
    (backward_stops (6 - 1) (by omega) (w.heap.size + 1) g a (s.us.length - a) (c - a) At (fun h => (hgA h).2) hN F W0 (by omega) hglt hbox.cell (hcells W0 y.V y.m s rfl hI0)) Kb.t (Kb.b (by omega) hglt) (Below.refl _ _) (fun _ => rfl)
    (BI w W0 sb db y s a (s.us.length - a)) (fun _ _ _ => False) (bi_own (by omega) hfoot) (fun _ _ _ _ _ hs _ _ => hs)
    ⟨⟨y.V, y.m, hI0, Ks.ofBelow H.out hB0, by simp⟩, fun _ _ _ => rfl⟩
    (fun x => { tmps := #[pt sb, .int .i64 ((m : Int) + 1), undef, undef, .pointer (some ⟨w.heap.size, 0, none⟩), .slice At (s.us.length - a) (c - a), undef, F x.1, pt sb, .pointer (some ⟨sb, 0, none⟩), .pointer (some ⟨sb, 1028, none⟩), .slice (some ⟨gm, 0, none⟩) s.marks.length cm, .int .i64 ((m : Int) + 1), .int .i64 (m : Int), .pointer (some ⟨gm, m * 2, none⟩), .agg #[.int .i64 (a : Int), .bool ch], pt sb, .pointer (some ⟨sb, 0, none⟩), .pointer (some ⟨sb, 1029, none⟩), .slice A s.us.length c, .pointer (some ⟨w.heap.size, 0, none⟩), .int .i64 (a : Int), .slice At (s.us.length - a) (c - a), .slice At (s.us.length - a) (c - a), .func (.func 114) #[] #[.pointer (some ⟨w.heap.size + 1, 0, none⟩)], .int .i64 (x.1 : Int), F x.1, undef, undef, undef, undef, undef, undef, undef, undef, undef, undef, undef, undef, undef, undef, undef, undef, undef, undef, undef, undef, undef, undef, undef, undef, undef, undef, undef], defers := [] }) ?assign ?body ?done ?stop
  case assign =>
    intro l x W K hK
    dsimp only [bencs]
    gi_wp2
    exact hK
  case stop =>
    rintro D c pre W _ _ h _
    exact h.elim
  case body =>
    rintro lp pre x W ⟨⟨V, n, hI, hK, hn⟩, hb⟩ hlen
    have hx2 : a + x.1 < s.us.length := by have := x.2; omega
    have hu := HU.out x.1 x.2
    obtain ⟨u, hus⟩ : ∃ u, s.us[a + x.1]? = some u := ⟨_, List.getElem?_eq_getElem hx2⟩
    obtain ⟨fn, cap, hFv, hent, hC⟩ := undo_any hI (hI.unAt (a + x.1) (F x.1) u hu hus) (by show n < _; omega)
    have HC := Lib.hid hC
    have HI := Lib.hid hI
    have HK := Lib.hid hK
    have HB := Lib.hid hb
    have HS := Lib.hid hus
    have HCX := Lib.hid hcells
    have hcx := Lib.hid (hcells W V n { s with cur := backs s a pre } rfl hI)
    clear hC hI hK hb hu hus hcells hI0 hB0 hBV hown hbox hV1 hW0
    dsimp only
    rw [hFv]
    gi_wp2_with (refine ⟨trivial, ?_⟩; refine (CallsIn.inRound lp (callsIn_wide.2 HC.out)).mono ?_; rintro e w1 ⟨rfl, V1', n1, h1, k1, m1⟩; have H1 := Lib.hid h1; have K1 := Lib.hid k1; clear h1 k1)
    have hk1 : ∀ k, ¬ y.foot k → k < W.heap.size → w1.heap[k]? = W.heap[k]? := fun k h1 h2 => K1.out.kf.fr.block k h2 h1
    have hsW : W0.heap.size ≤ W.heap.size := by
      have h8 := HB.out (w.heap.size + 1) (by omega) (by omega)
      rw [Array.getElem?_eq_getElem (show w.heap.size + 1 < W0.heap.size by omega)] at h8
      have := (Array.getElem?_eq_some_iff.1 h8).1
      omega
    have hnew : ∀ k, w.heap.size ≤ k → ¬ y.foot k := fun k h1 h2 => by have := hfoot k h2; omega
    have hbk : ∀ k, w.heap.size ≤ k → k < w.heap.size + 2 → w1.heap[k]? = W.heap[k]? := fun k h1 h2 => hk1 k (hnew k h1) (by omega)
    refine ⟨⟨K1.out.kf.fr.size, fun k o h1 h2 _ => (hk1 k (hnew k (by omega)) (Array.getElem?_eq_some_iff.1 h2).1).trans h2⟩, ⟨World.cell?_of_block (hbk _ (by simp) (by simp)), fun j hj => ?_⟩, ⟨V1', n1, ?_, HK.out.trans K1.out, ?_⟩, fun k h1 h2 => (hbk k h1 h2).trans (HB.out k h1 h2)⟩
    · exact (HCX.out w1 V1' n1 { s with cur := Un.app (backs s a pre) u.1 } rfl H1.out j hj).trans (hcx.out j hj).symm
    · have e : backs s a (pre ++ [x]) = Un.app (backs s a pre) u.1 := by rw [backs_snoc]; unfold unapp; rw [HS.out]
      rw [e]
      exact H1.out
    · have : (y.at V n).m = n := rfl
      rw [List.length_append, List.length_singleton]; omega
  case done =>
    rintro D ys W hD rfl ⟨⟨V, n, hI, hK, hn⟩, hb⟩ hKd
    have hba := backs_all HG.out (s := s) (a := a) (N := s.us.length - a) (by omega)
    have hcl := hcells W V n { s with cur := backs s a (rv (s.us.length - a) 0) } rfl hI
    have hgb : 0 < s.us.length - a → ∃ cur, W.heap[g]? = some (.cells cur 1 (0, 0)) := fun hp => by
      have h1 := hI.undoOk
      rcases h1.2 with ⟨e1, e2⟩ | ⟨g', cap, cur, e1, _, e2, _⟩
      · have e2' : s.us.length = 0 := e2
        omega
      · have e3 : y.uv = _ := e1
        rw [HUV.out, (hgA hp).1] at e3
        injection e3 with e3; injection e3 with e3; injection e3 with e3
        subst e3
        exact ⟨cur, e2⟩
    obtain ⟨W', hclr, hCl, hsame⟩ := clear_any (At := At) (N := s.us.length - a) (c' := c - a) (g := g) (a := a) (W := W) (fun h => (hgA h).2) (fun j hj => by rw [hcl j hj]; rfl) (fun j hj => by obtain ⟨cur, e⟩ := hgb (by omega); simp [World.frozen?, e])
    have hgsb : 0 < s.us.length - a → y.role g = some .undo := fun hp => H.out.ru g (by rw [HUV.out, (hgA hp).1]; rfl)
    have hoth : ∀ k r, y.role k = some r → r ≠ .undo → W'.heap[k]? = W.heap[k]? := fun k r e hr => by
      rcases Nat.eq_zero_or_pos (s.us.length - a) with h0 | hp
      · rw [hsame h0]
      · exact hCl.other k (fun e2 => by rw [e2, hgsb hp] at e; cases e; exact hr rfl)
    have hothn : ∀ k, ¬ y.foot k → W'.heap[k]? = W.heap[k]? := fun k h1 => by
      rcases Nat.eq_zero_or_pos (s.us.length - a) with h0 | hp
      · rw [hsame h0]
      · exact hCl.other k (fun e2 => h1 (by rw [e2]; simp [SLay.foot, hgsb hp]))
    have hnew : ∀ k, w.heap.size ≤ k → ¬ y.foot k := fun k h1 h2 => by have := hfoot k h2; omega
    have hund : W'.ownsRow 0 1 1 (.slice A a c) a (y.U.take a) := by
      have h1 : W.ownsRow 0 1 1 y.uv s.us.length y.U := hI.undoOk
      rw [HUV.out] at h1
      rcases Nat.eq_zero_or_pos (s.us.length - a) with h0 | hp
      · rw [hsame h0]
        have := owns_cut h1 hle
        rwa [Nat.mul_one] at this
      · exact owns_clr h1 (hgA hp).1 hCl (Nat.le_refl _) hle
    have hsb : W'.heap[sb]? = W.heap[sb]? := hoth sb _ H.out.rs (by simp)
    have k5 : W'.cell? ⟨sb, 1029, none⟩ = some (.slice A s.us.length c) := (World.cell?_of_block (a := ⟨sb, 1029, none⟩) hsb).trans (by rw [← HUV.out]; exact hI.cundo)
    have k4 : W'.cell? ⟨sb, 1028, none⟩ = some (.slice (some ⟨gm, 0, none⟩) s.marks.length cm) := (World.cell?_of_block (a := ⟨sb, 1028, none⟩) hsb).trans (by rw [← HMV.out]; exact hI.cmarks)
    have k3 := (World.cell?_of_block (a := ⟨sb, 1027, none⟩) hsb).trans hI.cchanged
    have hbx : W'.heap[w.heap.size]? = some (.cells #[.int .i64 (a : Int), .bool ch] 116 (0, 0)) := (hothn _ (hnew _ (Nat.le_refl _))).trans ((hb _ (Nat.le_refl _) (by omega)).trans hown)
    have k0 : W'.cell? ⟨w.heap.size, 0, none⟩ = some (.int .i64 (a : Int)) := by simp [World.cell?, hbx]
    have k1 : W'.cell? ⟨w.heap.size, 1, none⟩ = some (.bool ch) := by simp [World.cell?, hbx]
    have f3 : W'.frozen? ⟨sb, 1027, none⟩ = false := (frozen_of_block hsb 1027).trans (hI.frozen 1027)
    have f4 : W'.frozen? ⟨sb, 1028, none⟩ = false := (frozen_of_block hsb 1028).trans (hI.frozen 1028)
    have f5 : W'.frozen? ⟨sb, 1029, none⟩ = false := (frozen_of_block hsb 1029).trans (hI.frozen 1029)
    have s5 := fun X => (cut_hi HF.out hle X).1
    have s4 : ∀ X, (Instr.sliceAt 84 (.slice (some ⟨gm, 0, none⟩) s.marks.length cm) none (some (.int .i64 ((m : Int) + 1))) none).run Tryz.prog X = .ok (.slice (some ⟨gm, 0, none⟩) (m + 1) cm) X := fun X => by
      have h := (cut_hi (A := some ⟨gm, 0, none⟩) (n := s.marks.length) (c := cm) (a := m + 1) (.inr ⟨⟨gm, rfl⟩, HM3.out.1, HM3.out.2.1⟩) (by omega) X).2
      rw [show ((m + 1 : Nat) : Int) = (m : Int) + 1 by omega] at h
      exact h
    have HSB := Lib.hid hsb
    have HUN := Lib.hid hund
    have HI := Lib.hid hI
    have HK := Lib.hid hK
    have HN := Lib.hid hn
    have HB := Lib.hid hba
    have HC := Lib.hid hCl
    have HO := Lib.hid hoth
    have HON := Lib.hid hothn
    have HKD := Lib.hid hKd
    have HBB := Lib.hid hb
    clear hI hK hn hba hCl hoth hothn hnew hund hKd hcl hgb hsame hgsb hsb hbx hown hcells hglt hbox hI0 hB0 hBV hW0 hV1 hgA hb
    gi_wp2
    have FIN : Hid (∃ y', IsS ((((W'.setCell ⟨sb, 1029, none⟩ (.slice A a c)).setCell ⟨sb, 1028, none⟩ (.slice (some ⟨gm, 0, none⟩) (m + 1) cm)).setCell ⟨sb, 1027, none⟩ (.bool ch)).drew.putObj D (.deferred none)) sb y' db (s.back m) ∧ Ks w y ((((W'.setCell ⟨sb, 1029, none⟩ (.slice A a c)).setCell ⟨sb, 1028, none⟩ (.slice (some ⟨gm, 0, none⟩) (m + 1) cm)).setCell ⟨sb, 1027, none⟩ (.bool ch)).drew.putObj D (.deferred none)) y' ∧ y'.m ≤ y.m + s.us.length) := by
      have hI := HI.out
      rw [HB.out] at hI
      have hDsb : D ≠ sb := fun e => by have := hfoot sb (by simp [SLay.foot, H.out.rs]); omega
      obtain ⟨Z, hZ⟩ : ∃ Z, Z = ((((W'.setCell ⟨sb, 1029, none⟩ (.slice A a c)).setCell ⟨sb, 1028, none⟩ (.slice (some ⟨gm, 0, none⟩) (m + 1) cm)).setCell ⟨sb, 1027, none⟩ (.bool ch)).drew.putObj D (.deferred none)) := ⟨_, rfl⟩
      have hZb : ∀ k, k ≠ sb → k ≠ D → Z.heap[k]? = W'.heap[k]? := fun k h1 h2 => by
        rw [hZ]
        refine (World.putObj_heap_other h2).trans ?_
        exact (Below.heap_setCell _ _ _ _ h1).trans ((Below.heap_setCell _ _ _ _ h1).trans (Below.heap_setCell _ _ _ _ h1))
      have hsz' : Z.heap.size = W.heap.size := by
        rw [hZ, ← HC.out.size]; simp [World.putObj, World.setCell, World.drew]
      have hrow := ((((hI.row.of_block HSB.out).set 1029 (.slice A a c)).set 1028 (.slice (some ⟨gm, 0, none⟩) (m + 1) cm)).set 1027 (.bool ch))
      have hrowZ := hrow.of_block (w' := Z) (by rw [hZ]; exact World.putObj_heap_other (fun e => hDsb e.symm))
      have hcut := hI.cut3 (W3 := Z) (A := A) (Am := some ⟨gm, 0, none⟩) (n := s.us.length) (c := c) (nm := s.marks.length) (cm := cm) (a := a) (m := m + 1) (ch := ch) HUV.out HMV.out hle (by show m + 1 ≤ s.marks.length; omega) (by omega)
        (hrowZ.congr fun j hj => by
          unfold scell
          by_cases e1 : j = 1027
          · subst e1; rfl
          · by_cases e2 : j = 1028
            · subst e2; rfl
            · by_cases e3 : j = 1029
              · subst e3; rfl
              · simp only [if_neg e1, if_neg e2, if_neg e3])
        (fun k r e h1 h2 => by
          have hkr : y.role k = some r := e
          have hlt := hfoot k (by simp [SLay.foot, hkr])
          exact (hZb k (fun e2 => by rw [e2, H.out.rs] at hkr; cases hkr; exact h1 rfl) (by omega)).trans (HO.out k r hkr h2))
        (Dk.owns_of_block HUN.out fun k e => by
          have hkr := H.out.ru k (by rw [HUV.out]; cases A <;> exact e)
          have hlt := hfoot k (by simp [SLay.foot, hkr])
          exact hZb k (fun e2 => by rw [e2, H.out.rs] at hkr; cases hkr) (by omega))
      rw [← hZ]
      have e9 : s.back m = { s with cur := s.view a, us := s.us.take a, marks := s.marks.take (m + 1), changed := ch } := by unfold Sto.back; rw [HX.out]
      rw [e9]
      refine Lib.hid ⟨_, hcut, ⟨⟨⟨?_, ?_, ?_, ?_, fun k h1 h2 => ?_⟩, HK.out.kf.foot⟩, fun k h1 => ⟨?_, (HK.out.cs k h1).2⟩⟩, ?_⟩
      · rw [hZ]; exact HC.out.os.trans HK.out.kf.fr.os
      · rw [hZ]; exact HC.out.tape.trans HK.out.kf.fr.tape
      · rw [hZ]; exact HC.out.output.trans HK.out.kf.fr.output
      · rw [hsz']; exact HK.out.kf.fr.size
      · exact (hZb k (fun e => h2 (e ▸ H.out.fsb)) (by omega)).trans ((HON.out k h2).trans (HK.out.kf.fr.block k h1 h2))
      · have hlt := hfoot k (by simp [SLay.foot, h1])
        exact (hZb k (fun e2 => by rw [e2, H.out.rs] at h1; cases h1) (by omega)).trans ((HO.out k _ h1 (by simp)).trans (HK.out.cs k h1).1)
      · have h1 := HN.out
        have h2 : (rv (s.us.length - a) 0).length = s.us.length - a := by rw [length_rv]; omega
        show n ≤ _
        omega
    have HDD : Hid ((((W'.setCell ⟨sb, 1029, none⟩ (.slice A a c)).setCell ⟨sb, 1028, none⟩ (.slice (some ⟨gm, 0, none⟩) (m + 1) cm)).setCell ⟨sb, 1027, none⟩ (.bool ch)).drew.heap[D]? = some (.deferred (some []))) := by
      have hDsb : D ≠ sb := fun e => by have := hfoot sb (by simp [SLay.foot, H.out.rs]); omega
      refine Lib.hid ?_
      exact (Below.heap_setCell _ _ _ _ hDsb).trans ((Below.heap_setCell _ _ _ _ hDsb).trans ((Below.heap_setCell _ _ _ _ hDsb).trans ((HON.out D (fun e => by have := hfoot D e; omega)).trans HKD.out)))
    have HSS := Lib.hid (And.intro k0 k1)
    have hne : sb ≠ w.heap.size := fun e => by have := hfoot sb (by simp [SLay.foot, H.out.rs]); omega
    have hne2 : w.heap.size ≠ sb := fun e => hne e.symm
    have HFT := Lib.hid hfoot
    have HUL := Lib.hid hUl
    clear k0 k1 hlo hs0 hs1 hsz d5 e0 e1 hUl hN hfoot hmI hD
    --GEN
    refine wpIn_wide.2 ?_
    refine wp_region_noPanic ?_
    refine wp_region_held_drew (S := fun X => X.cell? ⟨w.heap.size, 0, none⟩ = some (.int .i64 (a : Int)) ∧ X.cell? ⟨w.heap.size, 1, none⟩ = some (.bool ch)) (by kernel_rfl) HSS.out (fun hHeld => ?_)
    refine wpAnyH_take (i := 0) (v := ?_) rfl (by kernel_rfl) (by kernel_rfl) (by kernel_rfl) (fun _ _ _ h => h) (Or.inl ⟨by rfl, ?_⟩) (by assumption) ?_
    rotate_left 1
    · intro w hSw; (try dsimp only at hSw); go_simp; try (with_reducible rfl)
    try simp only [Act.put, List.getElem_toArray, List.getElem_cons_zero, List.getElem_cons_succ, List.setIfInBounds_toArray, List.set_cons_zero, List.set_cons_succ]
    refine wpAnyH_take (i := 1) (v := ?_) rfl (by kernel_rfl) (by kernel_rfl) (by kernel_rfl) (fun _ _ _ h => h) (Or.inl ⟨by rfl, ?_⟩) (by assumption) ?_
    rotate_left 1
    · intro w hSw; (try dsimp only at hSw); go_simp; try (with_reducible rfl)
    try simp only [Act.put, List.getElem_toArray, List.getElem_cons_zero, List.getElem_cons_succ, List.setIfInBounds_toArray, List.set_cons_zero, List.set_cons_succ]
    refine wpAnyH_take (i := 2) (v := ?_) rfl (by kernel_rfl) (by kernel_rfl) (by kernel_rfl) (fun _ _ _ h => h) (Or.inl ⟨by rfl, ?_⟩) (by assumption) ?_
    rotate_left 1
    · intro w hSw; (try dsimp only at hSw); go_simp; try (with_reducible rfl)
    try simp only [Act.put, List.getElem_toArray, List.getElem_cons_zero, List.getElem_cons_succ, List.setIfInBounds_toArray, List.set_cons_zero, List.set_cons_succ]
    refine wpAnyH_take (i := 3) (v := ?_) rfl (by kernel_rfl) (by kernel_rfl) (by kernel_rfl) (fun _ _ _ h => h) (Or.inl ⟨by rfl, ?_⟩) (by assumption) ?_
    rotate_left 1
    · intro w hSw; (try dsimp only at hSw); go_simp; try (with_reducible rfl)
    try simp only [Act.put, List.getElem_toArray, List.getElem_cons_zero, List.getElem_cons_succ, List.setIfInBounds_toArray, List.set_cons_zero, List.set_cons_succ]
    refine wpAnyH_take (i := 4) (v := ?_) rfl (by kernel_rfl) (by kernel_rfl) (by kernel_rfl) (fun _ _ _ h => h) (Or.inl ⟨by rfl, ?_⟩) (by assumption) ?_
    rotate_left 1
    · intro w hSw; (try dsimp only at hSw); go_simp; try (with_reducible rfl)
    try simp only [Act.put, List.getElem_toArray, List.getElem_cons_zero, List.getElem_cons_succ, List.setIfInBounds_toArray, List.set_cons_zero, List.set_cons_succ]
    refine wpAnyH_take (i := 5) (v := ?_) rfl (by kernel_rfl) (by kernel_rfl) (by kernel_rfl) (fun _ _ _ h => h) (Or.inl ⟨by rfl, ?_⟩) (by assumption) ?_
    rotate_left 1
    · intro w hSw; (try dsimp only at hSw); go_simp; try (with_reducible rfl)
    try simp only [Act.put, List.getElem_toArray, List.getElem_cons_zero, List.getElem_cons_succ, List.setIfInBounds_toArray, List.set_cons_zero, List.set_cons_succ]
    refine wpAnyH_take (i := 7) (v := ?_) rfl (by kernel_rfl) (by kernel_rfl) (by kernel_rfl) (fun _ _ _ h => h) (Or.inl ⟨by rfl, ?_⟩) (by assumption) ?_
    rotate_left 1
    · intro w hSw; (try dsimp only at hSw); go_simp; try (with_reducible rfl)
    try simp only [Act.put, List.getElem_toArray, List.getElem_cons_zero, List.getElem_cons_succ, List.setIfInBounds_toArray, List.set_cons_zero, List.set_cons_succ]
    refine wpAnyH_take (i := 8) (v := ?_) rfl (by kernel_rfl) (by kernel_rfl) (by kernel_rfl) (fun _ _ _ h => h) (Or.inl ⟨by rfl, ?_⟩) (by assumption) ?_
    rotate_left 1
    · intro w hSw; (try dsimp only at hSw); go_simp; try (with_reducible rfl)
    try simp only [Act.put, List.getElem_toArray, List.getElem_cons_zero, List.getElem_cons_succ, List.setIfInBounds_toArray, List.set_cons_zero, List.set_cons_succ]
    refine wpAnyH_take (i := 10) (v := ?_) rfl (by kernel_rfl) (by kernel_rfl) (by kernel_rfl) (fun _ _ _ h => h) (Or.inl ⟨by rfl, ?_⟩) (by assumption) ?_
    rotate_left 1
    · intro w hSw; (try dsimp only at hSw); go_simp; try (with_reducible rfl)
    try simp only [Act.put, List.getElem_toArray, List.getElem_cons_zero, List.getElem_cons_succ, List.setIfInBounds_toArray, List.set_cons_zero, List.set_cons_succ]
    refine wpAnyH_take (i := 11) (v := ?_) rfl (by kernel_rfl) (by kernel_rfl) (by kernel_rfl) (fun _ _ _ h => h) (Or.inl ⟨by rfl, ?_⟩) (by assumption) ?_
    rotate_left 1
    · intro w hSw; (try dsimp only at hSw); go_simp; try (with_reducible rfl)
    try simp only [Act.put, List.getElem_toArray, List.getElem_cons_zero, List.getElem_cons_succ, List.setIfInBounds_toArray, List.set_cons_zero, List.set_cons_succ]
    refine wpAnyH_take (i := 12) (v := ?_) rfl (by kernel_rfl) (by kernel_rfl) (by kernel_rfl) (fun _ _ _ h => h) (Or.inl ⟨by rfl, ?_⟩) (by assumption) ?_
    rotate_left 1
    · intro w hSw; (try dsimp only at hSw); go_simp; try (with_reducible rfl)
    try simp only [Act.put, List.getElem_toArray, List.getElem_cons_zero, List.getElem_cons_succ, List.setIfInBounds_toArray, List.set_cons_zero, List.set_cons_succ]
    refine wpAnyH_take (i := 14) (v := ?_) rfl (by kernel_rfl) (by kernel_rfl) (by kernel_rfl) (fun _ _ _ h => h) (Or.inl ⟨by rfl, ?_⟩) (by assumption) ?_
    rotate_left 1
    · intro w hSw; (try dsimp only at hSw); go_simp; try (with_reducible rfl)
    try simp only [Act.put, List.getElem_toArray, List.getElem_cons_zero, List.getElem_cons_succ, List.setIfInBounds_toArray, List.set_cons_zero, List.set_cons_succ]
    refine wpAnyH_take (i := 16) (v := ?_) rfl (by kernel_rfl) (by kernel_rfl) (by kernel_rfl) (fun _ _ _ h => h) (Or.inl ⟨by rfl, ?_⟩) (by assumption) ?_
    rotate_left 1
    · intro w hSw; (try dsimp only at hSw); go_simp; try (with_reducible rfl)
    try simp only [Act.put, List.getElem_toArray, List.getElem_cons_zero, List.getElem_cons_succ, List.setIfInBounds_toArray, List.set_cons_zero, List.set_cons_succ]
    refine wpAnyH_take (i := 17) (v := ?_) rfl (by kernel_rfl) (by kernel_rfl) (by kernel_rfl) (fun _ _ _ h => h) (Or.inl ⟨by rfl, ?_⟩) (by assumption) ?_
    rotate_left 1
    · intro w hSw; (try dsimp only at hSw); go_simp; try (with_reducible rfl)
    try simp only [Act.put, List.getElem_toArray, List.getElem_cons_zero, List.getElem_cons_succ, List.setIfInBounds_toArray, List.set_cons_zero, List.set_cons_succ]
    refine wpAnyH_ready (rs := [6, 13]) (by kernel_rfl) (by simp) ?_
    refine AllReadyH.cons rfl (fun K hK => ?_) (AllReadyH.cons rfl (fun K hK => ?_) AllReadyH.nil)
    · skip
      go_simp
      refine hK.out _ _ hHeld (fun hHeld2 => ?_)
      clear hK K hHeld
      have hHeld := hHeld2
      clear hHeld2
      try simp only [Act.put, List.getElem_toArray, List.getElem_cons_zero, List.getElem_cons_succ, List.setIfInBounds_toArray, List.set_cons_zero, List.set_cons_succ]
      refine wpAnyH_take (i := 9) (v := ?_) rfl (by kernel_rfl) (by kernel_rfl) (by kernel_rfl) (fun _ _ _ h => h) (Or.inl ⟨by rfl, ?_⟩) (by assumption) ?_
      rotate_left 1
      · intro w hSw; (try dsimp only at hSw); go_simp; try (with_reducible rfl)
      try simp only [Act.put, List.getElem_toArray, List.getElem_cons_zero, List.getElem_cons_succ, List.setIfInBounds_toArray, List.set_cons_zero, List.set_cons_succ]
      refine wpAnyH_ready (rs := [13]) (by kernel_rfl) (by simp) ?_
      refine AllReadyH.cons rfl (fun K hK => ?_) AllReadyH.nil
      go_simp
      refine hK.out _ _ hHeld (fun hHeld2 => ?_)
      clear hK K hHeld
      have hHeld := hHeld2
      clear hHeld2
      try simp only [Act.put, List.getElem_toArray, List.getElem_cons_zero, List.getElem_cons_succ, List.setIfInBounds_toArray, List.set_cons_zero, List.set_cons_succ]
      refine wpAnyH_take (i := 15) (v := ?_) rfl (by kernel_rfl) (by kernel_rfl) (by kernel_rfl) (fun _ _ _ h => h) (Or.inl ⟨by rfl, ?_⟩) (by assumption) ?_
      rotate_left 1
      · intro w hSw; (try dsimp only at hSw); go_simp; try (with_reducible rfl)
      try simp only [Act.put, List.getElem_toArray, List.getElem_cons_zero, List.getElem_cons_succ, List.setIfInBounds_toArray, List.set_cons_zero, List.set_cons_succ]
      refine wpAnyH_take (i := 18) (v := ?_) rfl (by kernel_rfl) (by kernel_rfl) (by kernel_rfl) (fun _ _ _ h => h) (Or.inl ⟨by rfl, ?_⟩) (by assumption) ?_
      rotate_left 1
      · intro w hSw; (try dsimp only at hSw); go_simp; try (with_reducible rfl)
      try simp only [Act.put, List.getElem_toArray, List.getElem_cons_zero, List.getElem_cons_succ, List.setIfInBounds_toArray, List.set_cons_zero, List.set_cons_succ]
      refine wpAnyH_take (i := 19) (v := ?_) rfl (by kernel_rfl) (by kernel_rfl) (by kernel_rfl) (fun _ _ _ h => h) (Or.inl ⟨by rfl, ?_⟩) (by assumption) ?_
      rotate_left 1
      · intro w hSw; (try dsimp only at hSw); go_simp; try (with_reducible rfl)
      try simp only [Act.put, List.getElem_toArray, List.getElem_cons_zero, List.getElem_cons_succ, List.setIfInBounds_toArray, List.set_cons_zero, List.set_cons_succ]
      refine wpAnyH_ready (rs := [20]) (by kernel_rfl) (by simp) ?_
      refine AllReadyH.cons rfl (fun K hK => ?_) AllReadyH.nil
      go_simp
      refine hK.out _ _ ⟨(World.cell?_setCell_far _ _ _ _ hne).trans hHeld.1, (World.cell?_setCell_far _ _ _ _ hne).trans hHeld.2⟩ (fun hHeld2 => ?_)
      clear hK K hHeld
      have hHeld := hHeld2
      clear hHeld2
      try simp only [Act.put, List.getElem_toArray, List.getElem_cons_zero, List.getElem_cons_succ, List.setIfInBounds_toArray, List.set_cons_zero, List.set_cons_succ]
      refine wpAnyH_take (i := 21) (v := ?_) rfl (by kernel_rfl) (by kernel_rfl) (by kernel_rfl) (fun _ _ _ h => h) (Or.inl ⟨by rfl, ?_⟩) (by assumption) ?_
      rotate_left 1
      · intro w hSw; (try dsimp only at hSw); go_simp; try (with_reducible rfl)
      try simp only [Act.put, List.getElem_toArray, List.getElem_cons_zero, List.getElem_cons_succ, List.setIfInBounds_toArray, List.set_cons_zero, List.set_cons_succ]
      refine wpAnyH_take (i := 22) (v := ?_) rfl (by kernel_rfl) (by kernel_rfl) (by kernel_rfl) (fun _ _ _ h => h) (Or.inl ⟨by rfl, ?_⟩) (by assumption) ?_
      rotate_left 1
      · intro w hSw; (try dsimp only at hSw); go_simp; try (with_reducible rfl)
      try simp only [Act.put, List.getElem_toArray, List.getElem_cons_zero, List.getElem_cons_succ, List.setIfInBounds_toArray, List.set_cons_zero, List.set_cons_succ]
      refine wpAnyH_ready (rs := [23]) (by kernel_rfl) (by simp) ?_
      refine AllReadyH.cons rfl (fun K hK => ?_) AllReadyH.nil
      go_simp
      refine hK.out _ _ ⟨(World.cell?_setCell_far _ _ _ _ hne).trans hHeld.1, (World.cell?_setCell_far _ _ _ _ hne).trans hHeld.2⟩ (fun hHeld2 => ?_)
      clear hK K hHeld
      have hHeld := hHeld2
      clear hHeld2
      try simp only [Act.put, List.getElem_toArray, List.getElem_cons_zero, List.getElem_cons_succ, List.setIfInBounds_toArray, List.set_cons_zero, List.set_cons_succ]
      refine wpAnyH_take (i := 24) (v := ?_) rfl (by kernel_rfl) (by kernel_rfl) (by kernel_rfl) (fun _ _ _ h => h) (Or.inl ⟨by rfl, ?_⟩) (by assumption) ?_
      rotate_left 1
      · intro w hSw; (try dsimp only at hSw); go_simp; try (with_reducible rfl)
      try simp only [Act.put, List.getElem_toArray, List.getElem_cons_zero, List.getElem_cons_succ, List.setIfInBounds_toArray, List.set_cons_zero, List.set_cons_succ]
      refine wpAnyH_take (i := 25) (v := ?_) rfl (by kernel_rfl) (by kernel_rfl) (by kernel_rfl) (fun _ _ _ h => h) (Or.inl ⟨by rfl, ?_⟩) (by assumption) ?_
      rotate_left 1
      · intro w hSw; (try dsimp only at hSw); go_simp; try (with_reducible rfl)
      try simp only [Act.put, List.getElem_toArray, List.getElem_cons_zero, List.getElem_cons_succ, List.setIfInBounds_toArray, List.set_cons_zero, List.set_cons_succ]
      refine wpAnyH_ready (rs := [26]) (by kernel_rfl) (by simp) ?_
      refine AllReadyH.cons rfl (fun K hK => ?_) AllReadyH.nil
      go_simp
      refine hK.out _ _ ⟨(World.cell?_setCell_far _ _ _ _ hne).trans hHeld.1, (World.cell?_setCell_far _ _ _ _ hne).trans hHeld.2⟩ (fun hHeld2 => ?_)
      clear hK K hHeld
      have hHeld := hHeld2
      clear hHeld2
      try simp only [Act.put, List.getElem_toArray, List.getElem_cons_zero, List.getElem_cons_succ, List.setIfInBounds_toArray, List.set_cons_zero, List.set_cons_succ]
      refine wpAnyH_done (by kernel_rfl) ?_ _
      refine NoPanic.normal ?_
      go_wp2
      refine ⟨by simp, .inl ⟨_, _, rfl, run_takeDeferred HDD.out, ?_⟩⟩
      obtain ⟨y9, i9, k9, m9⟩ := FIN.out
      exact ⟨_, results_none rfl _ _ _, rfl, y9, i9, k9, m9⟩
    · skip
      go_simp
      refine hK.out _ _ hHeld (fun hHeld2 => ?_)
      clear hK K hHeld
      have hHeld := hHeld2
      clear hHeld2
      try simp only [Act.put, List.getElem_toArray, List.getElem_cons_zero, List.getElem_cons_succ, List.setIfInBounds_toArray, List.set_cons_zero, List.set_cons_succ]
      refine wpAnyH_take (i := 15) (v := ?_) rfl (by kernel_rfl) (by kernel_rfl) (by kernel_rfl) (fun _ _ _ h => h) (Or.inl ⟨by rfl, ?_⟩) (by assumption) ?_
      rotate_left 1
      · intro w hSw; (try dsimp only at hSw); go_simp; try (with_reducible rfl)
      try simp only [Act.put, List.getElem_toArray, List.getElem_cons_zero, List.getElem_cons_succ, List.setIfInBounds_toArray, List.set_cons_zero, List.set_cons_succ]
      refine wpAnyH_ready (rs := [6]) (by kernel_rfl) (by simp) ?_
      refine AllReadyH.cons rfl (fun K hK => ?_) AllReadyH.nil
      go_simp
      refine hK.out _ _ hHeld (fun hHeld2 => ?_)
      clear hK K hHeld
      have hHeld := hHeld2
      clear hHeld2
      try simp only [Act.put, List.getElem_toArray, List.getElem_cons_zero, List.getElem_cons_succ, List.setIfInBounds_toArray, List.set_cons_zero, List.set_cons_succ]
      refine wpAnyH_take (i := 9) (v := ?_) rfl (by kernel_rfl) (by kernel_rfl) (by kernel_rfl) (fun _ _ _ h => h) (Or.inl ⟨by rfl, ?_⟩) (by assumption) ?_
      rotate_left 1
      · intro w hSw; (try dsimp only at hSw); go_simp; try (with_reducible rfl)
      try simp only [Act.put, List.getElem_toArray, List.getElem_cons_zero, List.getElem_cons_succ, List.setIfInBounds_toArray, List.set_cons_zero, List.set_cons_succ]
      refine wpAnyH_take (i := 18) (v := ?_) rfl (by kernel_rfl) (by kernel_rfl) (by kernel_rfl) (fun _ _ _ h => h) (Or.inl ⟨by rfl, ?_⟩) (by assumption) ?_
      rotate_left 1
      · intro w hSw; (try dsimp only at hSw); go_simp; try (with_reducible rfl)
      try simp only [Act.put, List.getElem_toArray, List.getElem_cons_zero, List.getElem_cons_succ, List.setIfInBounds_toArray, List.set_cons_zero, List.set_cons_succ]
      refine wpAnyH_take (i := 19) (v := ?_) rfl (by kernel_rfl) (by kernel_rfl) (by kernel_rfl) (fun _ _ _ h => h) (Or.inl ⟨by rfl, ?_⟩) (by assumption) ?_
      rotate_left 1
      · intro w hSw; (try dsimp only at hSw); go_simp; try (with_reducible rfl)
      try simp only [Act.put, List.getElem_toArray, List.getElem_cons_zero, List.getElem_cons_succ, List.setIfInBounds_toArray, List.set_cons_zero, List.set_cons_succ]
      refine wpAnyH_ready (rs := [20]) (by kernel_rfl) (by simp) ?_
      refine AllReadyH.cons rfl (fun K hK => ?_) AllReadyH.nil
      go_simp
      refine hK.out _ _ ⟨(World.cell?_setCell_far _ _ _ _ hne).trans hHeld.1, (World.cell?_setCell_far _ _ _ _ hne).trans hHeld.2⟩ (fun hHeld2 => ?_)
      clear hK K hHeld
      have hHeld := hHeld2
      clear hHeld2
      try simp only [Act.put, List.getElem_toArray, List.getElem_cons_zero, List.getElem_cons_succ, List.setIfInBounds_toArray, List.set_cons_zero, List.set_cons_succ]
      refine wpAnyH_take (i := 21) (v := ?_) rfl (by kernel_rfl) (by kernel_rfl) (by kernel_rfl) (fun _ _ _ h => h) (Or.inl ⟨by rfl, ?_⟩) (by assumption) ?_
      rotate_left 1
      · intro w hSw; (try dsimp only at hSw); go_simp; try (with_reducible rfl)
      try simp only [Act.put, List.getElem_toArray, List.getElem_cons_zero, List.getElem_cons_succ, List.setIfInBounds_toArray, List.set_cons_zero, List.set_cons_succ]
      refine wpAnyH_take (i := 22) (v := ?_) rfl (by kernel_rfl) (by kernel_rfl) (by kernel_rfl) (fun _ _ _ h => h) (Or.inl ⟨by rfl, ?_⟩) (by assumption) ?_
      rotate_left 1
      · intro w hSw; (try dsimp only at hSw); go_simp; try (with_reducible rfl)
      try simp only [Act.put, List.getElem_toArray, List.getElem_cons_zero, List.getElem_cons_succ, List.setIfInBounds_toArray, List.set_cons_zero, List.set_cons_succ]
      refine wpAnyH_ready (rs := [23]) (by kernel_rfl) (by simp) ?_
      refine AllReadyH.cons rfl (fun K hK => ?_) AllReadyH.nil
      go_simp
      refine hK.out _ _ ⟨(World.cell?_setCell_far _ _ _ _ hne).trans hHeld.1, (World.cell?_setCell_far _ _ _ _ hne).trans hHeld.2⟩ (fun hHeld2 => ?_)
      clear hK K hHeld
      have hHeld := hHeld2
      clear hHeld2
      try simp only [Act.put, List.getElem_toArray, List.getElem_cons_zero, List.getElem_cons_succ, List.setIfInBounds_toArray, List.set_cons_zero, List.set_cons_succ]
      refine wpAnyH_take (i := 24) (v := ?_) rfl (by kernel_rfl) (by kernel_rfl) (by kernel_rfl) (fun _ _ _ h => h) (Or.inl ⟨by rfl, ?_⟩) (by assumption) ?_
      rotate_left 1
      · intro w hSw; (try dsimp only at hSw); go_simp; try (with_reducible rfl)
      try simp only [Act.put, List.getElem_toArray, List.getElem_cons_zero, List.getElem_cons_succ, List.setIfInBounds_toArray, List.set_cons_zero, List.set_cons_succ]
      refine wpAnyH_take (i := 25) (v := ?_) rfl (by kernel_rfl) (by kernel_rfl) (by kernel_rfl) (fun _ _ _ h => h) (Or.inl ⟨by rfl, ?_⟩) (by assumption) ?_
      rotate_left 1
      · intro w hSw; (try dsimp only at hSw); go_simp; try (with_reducible rfl)
      try simp only [Act.put, List.getElem_toArray, List.getElem_cons_zero, List.getElem_cons_succ, List.setIfInBounds_toArray, List.set_cons_zero, List.set_cons_succ]
      refine wpAnyH_ready (rs := [26]) (by kernel_rfl) (by simp) ?_
      refine AllReadyH.cons rfl (fun K hK => ?_) AllReadyH.nil
      go_simp
      refine hK.out _ _ ⟨(World.cell?_setCell_far _ _ _ _ hne).trans hHeld.1, (World.cell?_setCell_far _ _ _ _ hne).trans hHeld.2⟩ (fun hHeld2 => ?_)
      clear hK K hHeld
      have hHeld := hHeld2
      clear hHeld2
      try simp only [Act.put, List.getElem_toArray, List.getElem_cons_zero, List.getElem_cons_succ, List.setIfInBounds_toArray, List.set_cons_zero, List.set_cons_succ]
      refine wpAnyH_done (by kernel_rfl) ?_ _
      refine NoPanic.normal ?_
      go_wp2
      refine ⟨by simp, .inl ⟨_, _, rfl, run_takeDeferred HDD.out, ?_⟩⟩
      obtain ⟨y9, i9, k9, m9⟩ := FIN.out
      exact ⟨_, results_none rfl _ _ _, rfl, y9, i9, k9, m9⟩
    --END
end Go.Proofs.YtnpebfolmdbipaaGreatDoor.Sk

namespace Go.Proofs.YtnpebfolmdbipaaGreatDoor.Sk
set_option maxRecDepth 8000
set_option linter.unusedVariables false
set_option linter.unusedSimpArgs false
open Go.RowKit Mem Go.ChangeMaps
open Dk (cod elem cod_inj elem_mk elem_inv key key_inj wf_key keyed3 MapIs Fr ptr hmf cell_alloc cell_alloc_new zero42 IsD Dsk Lay drewN_cell Kp ref_zero newD newY)
theorem enter62 (args : Array Value) (W : World) : (callFunc 62 args).run Tryz.prog W = .ok (.enter 62 args) W := by kernel_rfl
section
variable {w w' : World} {sb db : Nat} {y y' : SLay} {s s' : Sto} {yd : Lay} {d : Dsk}
set_option maxHeartbeats 1000000 in
theorem back1_low (h : IsS w sb y db s) (p q : Addr) (m : Int) (hp : w.cell? p = some (.int .i64 m)) (hq : w.cell? q = some (pt sb)) (hb : m < 1) :
    Calls Tryz.prog 62 #[.pointer (some p), .pointer (some q)] w fun e w' => ∃ t, e = .returned (.int .i64 t) ∧ t = 1 ∧ ∃ n, w' = w.drewN n := by
  clear h
  go_enter Tryz.func62, Tryz.ntmps62
  go_wp2
  go_quiet (fail)
  go_wp2
  go_ret
  exact ⟨_, rfl, rfl, _, rfl⟩
set_option maxHeartbeats 1000000 in
theorem back1_high (h : IsS w sb y db s) (p q : Addr) (m : Int) (hp : w.cell? p = some (.int .i64 m)) (hq : w.cell? q = some (pt sb)) (h1 : ¬ m < 1) (hb : (s.marks.length : Int) < m) :
    Calls Tryz.prog 62 #[.pointer (some p), .pointer (some q)] w fun e w' => ∃ t, e = .returned (.int .i64 t) ∧ t = 1 ∧ ∃ n, w' = w.drewN n := by
  have c4 := h.cmarks
  obtain ⟨A, c, hmv⟩ := own_len' h.marksOk
  rw [hmv] at c4
  clear h hmv
  go_enter Tryz.func62, Tryz.ntmps62
  go_wp2
  go_quiet (fail)
  go_wp2
  go_ret
  exact ⟨_, rfl, rfl, _, rfl⟩
set_option maxHeartbeats 1000000 in
theorem back1_ok (h : IsS w sb y db s) (hg : SGood s) (p q : Addr) (m : Nat) (hp : w.cell? p = some (.int .i64 ((m : Int) + 1))) (hq : w.cell? q = some (pt sb)) (hb : m < s.marks.length) (hm : y.m + s.us.length < 1000000000) :
    Calls Tryz.prog 62 #[.pointer (some p), .pointer (some q)] w fun e w' => ∃ t, e = .returned (.int .i64 t) ∧ t = 0 ∧ ∃ y', IsS w' sb y' db (s.back m) ∧ Ks w y w' y' ∧ y'.m ≤ y.m + s.us.length := by
  have c4 := h.cmarks
  obtain ⟨A, c, hmv⟩ := own_len' h.marksOk
  rw [hmv] at c4
  have h1 : ¬ (m : Int) + 1 < 1 := by omega
  have h2 : ¬ (s.marks.length : Int) < (m : Int) + 1 := by omega
  have H := Lib.hid h
  have HG := Lib.hid hg
  have HB := Lib.hid hb
  clear h hmv hg hb
  go_enter Tryz.func62, Tryz.ntmps62
  go_wp2
  go_quiet (fail)
  go_wp2
  have v1 := (drewN_cell w nq p).trans hp
  have v2 := (drewN_cell w nq q).trans hq
  have C := Lib.hid (cback_any (H.out.drewN nq).drew HG.out m HB.out hm)
  have K0 := Lib.hid ((Ks.drewN H.out nq).drew)
  clear H hq hp c4
  generalize w.drewN nq = V at v1 v2 C K0 ⊢
  go_still_tail 4, (by kernel_rfl)
  change wpList _ _ _ _ _ V.drew
  go_wp2_with (go_at_call 63; refine C.out.mono ?_; rintro e w1 ⟨rfl, y1, h1, k1, m1⟩; have H1 := Lib.hid h1; have K1 := Lib.hid k1; clear h1 k1)
  go_ret
  exact ⟨_, rfl, rfl, y1, H1.out, K0.out.trans K1.out, m1⟩
/-- What Back answers, and does. -/
def Sto.badB (s : Sto) (m : Int) : Bool := decide (m < 1) || decide ((s.marks.length : Int) < m)
def ansB (s : Sto) (d : Dsk) (m : Int) : Int := if gone s d then 9 else if s.badB m then 1 else 0
def doB (s : Sto) (d : Dsk) (m : Int) : Sto := if gone s d then s else if s.badB m then s else s.back (m.toNat - 1)
set_option maxHeartbeats 1000000 in
theorem Back_any (h : IsS w sb y db s) (hd : IsD w db yd d) (hg0 : SGood s) (m : Int) (hm : y.m + s.us.length < 1000000000) :
    Calls Tryz.prog 21 #[pt sb, .int .i64 m] w fun e w' => e = .returned (.int .i64 (ansB s d m)) ∧ ∃ y', IsS w' sb y' db (doB s d m) ∧ Ks w y w' y' ∧ y'.m ≤ y.m + s.us.length := by
  obtain ⟨W, hW⟩ : ∃ W, W = (w.alloc (.cells #[pt sb] 25)).alloc (.cells #[.int .i64 m] 3) := ⟨_, rfl⟩
  have hx : Bx2 w W (pt sb) (.int .i64 m) := hW ▸ bx2 w _ _ _ _
  have hI := h.below hx.bel
  have hD := hd.below hx.bel
  have HW := Lib.hid hW
  have K0 := Lib.hid (Ks.ofBelow h hx.bel)
  have hmk := hmf
  have key : Calls Tryz.prog 47 #[pt sb, .func (.func 62) #[] #[.pointer (some ⟨w.heap.size + 1, 0, none⟩), .pointer (some ⟨w.heap.size, 0, none⟩)]] W fun e w' => e = .returned (.int .i64 (ansB s d m)) ∧ ∃ y', IsS w' sb y' db (doB s d m) ∧ Ks W y w' y' ∧ y'.m ≤ y.m + s.us.length := by
    unfold ansB doB
    by_cases hg : gone s d = true
    · rw [if_pos hg, if_pos hg]
      refine (ask_gone hI hD 62 _ (enter62 _) hg).mono ?_
      rintro e w' ⟨rfl, rfl⟩
      exact ⟨rfl, y, hI, Ks.refl _ _, by omega⟩
    · have hg' : gone s d = false := by simpa using hg
      rw [if_neg hg, if_neg hg]
      by_cases h1 : m < 1
      · have hb : s.badB m = true := by simp [Sto.badB, h1]
        rw [if_pos hb, if_pos hb]
        refine (ask_yes hI hD 62 _ (enter62 _) hg' (back1_low hI _ _ m hx.c2 hx.c1 h1)).mono ?_
        rintro e w' ⟨t, rfl, rfl, n, rfl⟩
        exact ⟨rfl, y, hI.drewN n, Ks.drewN hI n, by omega⟩
      · by_cases h2 : (s.marks.length : Int) < m
        · have hb : s.badB m = true := by simp [Sto.badB, h2]
          rw [if_pos hb, if_pos hb]
          refine (ask_yes hI hD 62 _ (enter62 _) hg' (back1_high hI _ _ m hx.c2 hx.c1 h1 h2)).mono ?_
          rintro e w' ⟨t, rfl, rfl, n, rfl⟩
          exact ⟨rfl, y, hI.drewN n, Ks.drewN hI n, by omega⟩
        · have hb : ¬ s.badB m = true := by simp [Sto.badB, h1, h2]
          rw [if_neg hb, if_neg hb]
          obtain ⟨k, rfl⟩ : ∃ k : Nat, m = (k : Int) + 1 := ⟨(m - 1).toNat, by omega⟩
          rw [show ((k : Int) + 1).toNat - 1 = k by omega]
          refine (ask_yes hI hD 62 _ (enter62 _) hg' (back1_ok hI hg0 _ _ k hx.c2 hx.c1 (by omega) hm)).mono ?_
          rintro e w' ⟨t, rfl, rfl, y', i1, i2, i3⟩
          exact ⟨rfl, y', i1, i2, i3⟩
  have KEY := Lib.hid key
  clear hx hW hI hD h hd key hg0
  go_enter Tryz.func21, Tryz.ntmps21
  go_wp2_with (go_at_call 47; rw [← HW.out]; refine KEY.out.mono ?_; rintro e w1 ⟨rfl, y1, h1, k1, m1⟩; have H1 := Lib.hid h1; have K1 := Lib.hid k1; clear h1 k1)
  go_ret
  exact ⟨rfl, y1, H1.out, K0.out.trans K1.out, m1⟩
end
end Go.Proofs.YtnpebfolmdbipaaGreatDoor.Sk

namespace Go.Proofs.YtnpebfolmdbipaaGreatDoor.Sk
set_option maxRecDepth 8000
set_option linter.unusedVariables false
set_option linter.unusedSimpArgs false
open Go.RowKit Mem Go.ChangeShapes Go.WideShapes Go.Deep
/-- The texts in a slice of structs are no longer than the form's reach. -/
def StrSized (P : Program) (w : World) (fs : Array Field) (A : Option Addr) (len : Nat) : Prop :=
  ∀ b o i j fld s, A = some ⟨b, o, none⟩ → i < len → fs[j]? = some fld → P.underlying fld.type = some .string → w.cell? ⟨b, o + (i * fs.size + j), none⟩ = some (.string s) → s.size ≤ reachBytes
section
variable {H : Type} {enc : TypeId × Value → H} {P : Program} {w : World} {base : Nat} {spare : Nat → Bool} {held : Bool}
theorem weights_all {e : TypeId} {l : List (DataW H)} {d : DataW H} (hd : d ∈ l) {n : Nat} (hn : n ∈ d.weights P e) : n ∈ DataW.weightsAll P e l := by
  induction l with
  | nil => cases hd
  | cons x l ih =>
    simp only [DataW.weightsAll, List.mem_append]
    rcases List.mem_cons.1 hd with rfl | hd
    · exact .inl hn
    · exact .inr (ih hd)
theorem strSized_of {t e : TypeId} {fs : Array Field} {A : Option Addr} {len cap : Nat} {d : DataW H} {p : List MemPlace} (ht : P.underlying t = some (.slice e)) (he : P.underlying e = some (.struct fs)) (hone : oneCellFields P fs = true) (hC : P.cellsOf e = fs.size)
    (h : DataW.Trod enc P w base spare held t (.slice A len cap) d p) {ts : List TypeId} {ds : List (DataW H)} {k : Nat} (hZ : (DataW.weightsEach P ts ds).all (· ≤ reachBytes) = true) (hts : ts[k]? = some t) (hds : ds[k]? = some d) : StrSized P w fs A len := by
  intro b o i j fld s eA hi hj hstr hcell0
  have key : s.size ∈ d.weights P t := by
    obtain ⟨fuel, hf⟩ := h
    rcases open_slice ht hf with ⟨hcs, _⟩ | ⟨a, len', cap', m, n, D, Pl, hcs, _, hl, hm, hmm, hd, hii⟩
    · simp [Value.cells] at hcs
      omega
    · simp [Value.cells] at hcs
      obtain ⟨rfl, rfl, rfl⟩ := hcs
      injection eA with eA
      have hle : len ≤ m := by rw [hmm]; split <;> omega
      obtain ⟨cs', hc, ht'⟩ := hii i (by omega)
      rw [hC] at hc
      obtain ⟨ys, n', _, hx, hlen, hyl, hfld⟩ := DataW.trod_struct he ht'
      obtain ⟨_, hcl, hat⟩ := World.cells?_some hc
      obtain ⟨ho, hk⟩ := hone_of hone j fld hj
      have hjl : j < fs.size := (Array.getElem?_eq_some_iff.1 hj).1
      have hcell := hat j hjl
      have h1 := hfld j fld hj
      rw [ho, hk] at h1
      have hone' : (cs'.drop j).take 1 = [cs'[j]'(by omega)] := by
        rw [List.drop_eq_getElem_cons (by omega)]
        rfl
      rw [hone'] at h1
      rw [Go.Deep.add_add, eA, Mem.add_plain, hcell0, List.getElem?_eq_getElem (by omega)] at hcell
      injection hcell with hcell
      rw [← hcell] at h1
      obtain ⟨y, hy⟩ : ∃ y, ys[j]? = some y := ⟨_, List.getElem?_eq_getElem (by omega)⟩
      rw [hy] at h1
      obtain ⟨s', e1, e2, _⟩ := DataW.trod_string hstr h1
      have e1' : s = s' := by simpa using e1
      subst e1'
      have hDi : D i = .agg (ys.map (·.1)) := congrArg Prod.fst hx
      have hw1 : s.size ∈ (D i).weights P e := by
        rw [hDi]
        simp only [DataW.weights, he]
        refine DataW.weights_mem_each (j := j) (t := fld.type) (d := .lit (.string s.data.toList)) ?_ ?_ _ ?_
        · rw [List.getElem?_map, Array.getElem?_toList, hj]; rfl
        · rw [List.getElem?_map, hy, e2]; rfl
        · simp only [DataW.weights, List.mem_singleton]; rfl
      rw [show d = _ from congrArg Prod.fst hd]
      simp only [DataW.weights, ht, List.mem_cons, List.mem_append]
      exact .inr (.inl (weights_all (List.mem_map.2 ⟨i, List.mem_range.2 hi, rfl⟩) hw1))
  have := List.all_eq_true.1 hZ _ (DataW.weights_mem_each hts hds _ key)
  exact of_decide_eq_true this
end
/-! ### Acts that came in -/
structure ActD where
  dw : Nat
  p : Int
  s : List UInt8
  n : Nat
instance : Inhabited ActD := ⟨⟨0, 0, [], 0⟩⟩
/-- Act i of a row that begins at block b, place o. -/
structure ActAt (w : World) (b o i : Nat) (a : ActD) : Prop where
  c0 : w.cell? ⟨b, o + i * 4, none⟩ = some (.int .u8 (a.dw : Int))
  c1 : w.cell? ⟨b, o + i * 4 + 1, none⟩ = some (.int .i64 a.p)
  c2 : w.cell? ⟨b, o + i * 4 + 2, none⟩ = some (.string (str a.s))
  c3 : w.cell? ⟨b, o + i * 4 + 3, none⟩ = some (.int .u16 (a.n : Int))
  d : a.dw < 256
  nn : a.n < 65536
  sl : a.s.length ≤ 140737488351232
def Acts (w : World) (B : Nat) (A : Option Addr) (len cap : Nat) (f : Nat → ActD) : Prop :=
  len ≤ cap ∧ cap ≤ maxLen ∧ (0 < len → ∃ b o, A = some ⟨b, o, none⟩ ∧ b < B ∧ ∀ i, i < len → ActAt w b o i (f i))
theorem ActAt.below {w w' : World} {B b o i : Nat} {a : ActD} (h : ActAt w b o i a) (hb : Below B w w') (hlt : b < B) : ActAt w' b o i a :=
  { h with
    c0 := (hb.cell (p := ⟨b, o + i * 4, none⟩) hlt).trans h.c0, c1 := (hb.cell (p := ⟨b, o + i * 4 + 1, none⟩) hlt).trans h.c1
    c2 := (hb.cell (p := ⟨b, o + i * 4 + 2, none⟩) hlt).trans h.c2, c3 := (hb.cell (p := ⟨b, o + i * 4 + 3, none⟩) hlt).trans h.c3 }
theorem Acts.below {w w' : World} {B : Nat} {A : Option Addr} {len cap : Nat} {f : Nat → ActD} (h : Acts w B A len cap f) (hb : Below B w w') : Acts w' B A len cap f :=
  ⟨h.1, h.2.1, fun hp => by
    obtain ⟨b, o, e, hlt, hc⟩ := h.2.2 hp
    exact ⟨b, o, e, hlt, fun i hi => (hc i hi).below hb hlt⟩⟩
theorem act_fields : ∃ fs : Array Field, Tryz.prog.underlying 32 = some (.struct fs) ∧ fs.size = 4 ∧ fs.map (fun f => f.type) = #[5, 3, 9, 30] :=
  ⟨_, Tryz.underlying32, by kernel_rfl, by kernel_rfl⟩
theorem bounds_u16 {x : Int} (h : (Lit.int .u16 x).wf = true) : 0 ≤ x ∧ x < 65536 := by
  simp [Lit.wf, IntKind.min, IntKind.max, IntKind.signed, IntKind.bits] at h
  omega
theorem acts_of {fs : Array Field} {w : World} {B : Nat} {A : Option Addr} {len cap : Nat} {g : Nat → Nat → Value} (hu : Tryz.prog.underlying 32 = some (.struct fs)) (h : Structs Tryz.prog w B fs A len cap g) (hz : StrSized Tryz.prog w fs A len) : ∃ f : Nat → ActD, Acts w B A len cap f := by
  obtain ⟨fs', hu', hsz, hty⟩ := act_fields
  rw [hu] at hu'
  injection hu' with hu'; injection hu' with hu'
  subst hu'
  have hfld : ∀ j t, (#[5, 3, 9, 30] : Array TypeId)[j]? = some t → ∃ fld : Field, fs[j]? = some fld ∧ fld.type = t := fun j t e => by
    rw [← hty, Array.getElem?_map] at e
    obtain ⟨fld, e1, e2⟩ := Option.map_eq_some_iff.1 e
    exact ⟨fld, e1, e2⟩
  by_cases hp : 0 < len
  · obtain ⟨b, o, e, hlt, hc⟩ := h.2.2 hp
    have hex : ∀ i, i < len → ∃ a : ActD, ActAt w b o i a := fun i hi => by
      obtain ⟨f0, e0, t0⟩ := hfld 0 5 (by decide)
      obtain ⟨f1, e1, t1⟩ := hfld 1 3 (by decide)
      obtain ⟨f2, e2, t2⟩ := hfld 2 9 (by decide)
      obtain ⟨f3, e3, t3⟩ := hfld 3 30 (by decide)
      obtain ⟨c0, k0⟩ := hc i 0 f0 hi e0
      obtain ⟨c1, k1⟩ := hc i 1 f1 hi e1
      obtain ⟨c2, k2⟩ := hc i 2 f2 hi e2
      obtain ⟨c3, k3⟩ := hc i 3 f3 hi e3
      rw [t0] at k0; rw [t1] at k1; rw [t2] at k2; rw [t3] at k3
      unfold fieldOk at k0 k1 k2 k3
      rw [Tryz.underlying5] at k0
      rw [Tryz.underlying3] at k1
      rw [Tryz.underlying9] at k2
      rw [Tryz.underlying30] at k3
      obtain ⟨x0, v0, w0⟩ := k0
      obtain ⟨x1, v1, w1⟩ := k1
      obtain ⟨x2, v2, w2⟩ := k2
      obtain ⟨x3, v3, w3⟩ := k3
      have b0 := bounds_u8 w0
      have b3 := bounds_u16 w3
      rw [hsz, v0] at c0
      rw [hsz, v1, ← Nat.add_assoc] at c1
      rw [v2] at c2
      have z2 := hz b o i 2 f2 x2 e hi e2 (by rw [t2]; exact Tryz.underlying9) c2
      rw [hsz, ← Nat.add_assoc] at c2
      rw [hsz, v3, ← Nat.add_assoc] at c3
      refine ⟨⟨x0.toNat, x1, x2.toList, x3.toNat⟩, ?_, c1, ?_, ?_, ?_, ?_, ?_⟩
      · show w.cell? ⟨b, o + i * 4, none⟩ = some (.int .u8 (x0.toNat : Int))
        rw [Int.toNat_of_nonneg b0.1]; exact c0
      · show w.cell? ⟨b, o + i * 4 + 2, none⟩ = some (.string (str x2.toList))
        rw [str_back]; exact c2
      · show w.cell? ⟨b, o + i * 4 + 3, none⟩ = some (.int .u16 (x3.toNat : Int))
        rw [Int.toNat_of_nonneg b3.1]; exact c3
      · show x0.toNat < 256; omega
      · show x3.toNat < 65536; omega
      · show x2.toList.length ≤ 140737488351232
        have e := Ref.str_size x2.toList
        rw [str_back] at e
        rw [← e]; exact z2
    refine ⟨fun i => if hi : i < len then Classical.choose (hex i hi) else default, h.1, h.2.1, fun _ => ⟨b, o, e, hlt, fun i hi => ?_⟩⟩
    show ActAt _ _ _ _ (if hi : i < len then Classical.choose (hex i hi) else default)
    rw [dif_pos hi]
    exact Classical.choose_spec (hex i hi)
  · exact ⟨fun _ => default, h.1, h.2.1, fun hp' => absurd hp' hp⟩
section
variable {H : Type} {enc : TypeId × Value → H} {P : Program} {w : World} {base : Nat} {spare : Nat → Bool} {held : Bool}
theorem rdi_of_trod {t e : TypeId} {A : Option Addr} {len cap : Nat} {d : DataW H} {p : List MemPlace} (ht : P.underlying t = some (.slice e)) (he : P.underlying e = some (.int .i64)) (hc : P.cellsOf e = 1)
    (h : DataW.Trod enc P w base spare held t (.slice A len cap) d p) : ∃ l : List Int, l.length = len ∧ Dk.RdI w w.heap.size A cap l := by
  obtain ⟨fuel, hf⟩ := h
  rcases open_ints ht he hc hf with ⟨hcs, _⟩ | ⟨a, len', cap', zs, hcs, _, hl, hm, hz, _, hcell, hwz⟩
  · simp [Value.cells] at hcs
    obtain ⟨rfl, rfl, rfl⟩ := hcs
    exact ⟨[], rfl, Dk.RdI.nil _ _⟩
  · simp [Value.cells] at hcs
    obtain ⟨rfl, rfl, rfl⟩ := hcs
    have hzl : len ≤ zs.length := by rw [hz]; split <;> omega
    refine ⟨zs.take len, by simp; omega, by simp; omega, hm, fun e => (by cases e), fun hp => ?_⟩
    simp at hp
    have h0 := hcell 0 (by omega)
    obtain ⟨b, o, sp⟩ := a
    have hsp : sp = none := by simpa [Addr.add] using World.cell?_spot h0
    subst hsp
    refine ⟨b, o, rfl, by rw [Mem.add_plain] at h0; exact block_lt h0, fun i hi => ?_⟩
    simp at hi
    have hci := hcell i (by omega)
    rw [Mem.add_plain] at hci
    rw [hci, List.getElem_take]
    rw [List.getD_eq_getElem?_getD, List.getElem?_eq_getElem (by omega)]; rfl
end
end Go.Proofs.YtnpebfolmdbipaaGreatDoor.Sk

namespace Go.Proofs.YtnpebfolmdbipaaGreatDoor.Sk
set_option maxRecDepth 8000
set_option linter.unusedVariables false
set_option linter.unusedSimpArgs false
open Go.RowKit Mem Go.ChangeMaps
/-- How long an act's text is. -/
def ActD.tl (a : ActD) : Nat := a.s.length * (a.n % 300)
/-- Is one of the first k texts too long? -/
def bigTo (f : Nat → ActD) : Nat → Bool
  | 0 => false
  | k + 1 => bigTo f k || decide (6000 < (f k).tl)
theorem bigTo_mono (f : Nat → ActD) {j k : Nat} (h : j ≤ k) (hj : bigTo f j = true) : bigTo f k = true := by
  induction k with
  | zero => obtain rfl : j = 0 := by omega
            exact hj
  | succ k ih =>
    by_cases e : j = k + 1
    · subst e; exact hj
    · show (bigTo f k || _) = true
      rw [ih (by omega)]; rfl
theorem bigTo_no (f : Nat → ActD) {k : Nat} (h : bigTo f k = false) : ∀ i, i < k → (f i).tl ≤ 6000 := by
  induction k with
  | zero => intro i hi; omega
  | succ k ih =>
    have h' : (bigTo f k || decide (6000 < (f k).tl)) = false := h
    rw [Bool.or_eq_false_iff] at h'
    intro i hi
    by_cases e : i = k
    · subst e; simpa using h'.2
    · exact ih h'.1 i (by omega)
/-- What Great answers. -/
def gr (len : Nat) (f : Nat → ActD) : Int := if bigTo f (min len 61) = true then 1 else max 0 ((len : Int) - 60)
theorem gr_ok {len : Nat} {f : Nat → ActD} (h : ¬ 0 < gr len f) : len ≤ 60 ∧ ∀ i, i < len → (f i).tl ≤ 6000 := by
  unfold gr at h
  by_cases hb : bigTo f (min len 61) = true
  · rw [if_pos hb] at h; omega
  · rw [if_neg hb] at h
    have hl : len ≤ 60 := by omega
    refine ⟨hl, fun i hi => bigTo_no f (by simpa using hb) i (by omega)⟩
theorem gr_big {len : Nat} {f : Nat → ActD} {k : Nat} (hk : k < len) (h61 : k < 61) (h : 6000 < (f k).tl) : gr len f = 1 := by
  have h1 : bigTo f (k + 1) = true := by show (bigTo f k || decide _) = true; simp [h]
  unfold gr
  rw [if_pos (bigTo_mono f (by omega) h1)]
theorem gr_small {len : Nat} {f : Nat → ActD} (h : ∀ i, i < min len 61 → (f i).tl ≤ 6000) : gr len f = max 0 ((len : Int) - 60) := by
  have hb : ∀ k, k ≤ min len 61 → bigTo f k = false := by
    intro k
    induction k with
    | zero => intro _; rfl
    | succ k ih =>
      intro hk
      show (bigTo f k || decide _) = false
      rw [ih (by omega)]
      have := h k (by omega)
      simp; omega
  unfold gr
  rw [if_neg (by rw [hb _ (Nat.le_refl _)]; simp)]
theorem drewN_add (w : World) (a b : Nat) : (w.drewN a).drewN b = w.drewN (a + b) := by
  first | rfl | (simp [World.drewN, Nat.add_assoc]) | (induction b <;> simp_all [World.drewN])
set_option maxHeartbeats 2000000 in
theorem great_any (A : Option Addr) (len cap : Nat) (f : Nat → ActD) (w : World) (B : Nat) (ha : Acts w B A len cap f) :
    Calls Tryz.prog 9 #[.slice A len cap] w fun e w' => ∃ r : Int, e = .returned (.int .i64 r) ∧ (∃ n, w' = w.drewN n) ∧ Hid (r = gr len f) := by
  have hcap : (len : Int) ≤ 9223372036854775807 := by have := ha.1; have := ha.2.1; unfold maxLen at this; omega
  have HA := Lib.hid ha
  clear ha
  go_enter Tryz.func9, Tryz.ntmps9
  go_wp2
  go_loopw [3] (fun v wr => ∃ k : Nat, k ≤ len ∧ k ≤ 61 ∧ v = .int .i64 k ∧ (∃ n, wr = w.drewN n) ∧ Hid (∀ i, i < k → (f i).tl ≤ 6000)) (fun v _ => len - (intOf v).toNat)
  case atStart => exact ⟨0, Nat.zero_le _, by omega, rfl, ⟨0, rfl⟩, fun i hi => by omega⟩
  case round =>
    obtain ⟨k, hk, hk1, rfl, ⟨nn, rfl⟩, hall⟩ := hrel
    by_cases hlt : k < len
    · by_cases h61 : k < 61
      · obtain ⟨b, o, rfl, hb, hc⟩ := HA.out.2.2 (by omega)
        have h2 := (hc k hlt).c2
        have h3 := (hc k hlt).c3
        have hnn := (hc k hlt).nn
        have hsl := (hc k hlt).sl
        have g2 := (Dk.drewN_cell w nn ⟨b, o + k * 4 + 2, none⟩).trans h2
        have g3 := (Dk.drewN_cell w nn ⟨b, o + k * 4 + 3, none⟩).trans h3
        have hsz : (str (f k).s).size = (f k).s.length := Ref.str_size _
        have C5 := Lib.hid (show ∀ i, i < k → (f i).tl ≤ 6000 from hall.out)
        have h3i : (k : Int) < (len : Int) := by omega
        obtain ⟨t, ht⟩ : ∃ t, t = (f k).tl := ⟨_, rfl⟩
        have hq : wrap64 (((f k).s.length : Int) * (((f k).n : Int) % 300)) = (t : Int) := by
          have h1 : ((f k).s.length : Int) * (((f k).n : Int) % 300) = (t : Int) := by rw [ht]; unfold ActD.tl; rw [Int.natCast_mul]; norm_cast
          have h2 : t < 100000000000000000 := by
            rw [ht]; unfold ActD.tl
            have h4 : (f k).n % 300 < 300 := Nat.mod_lt _ (by omega)
            have := Nat.mul_le_mul hsl (Nat.le_of_lt h4)
            omega
          rw [h1]; unfold wrap64; omega
        have HT := Lib.hid ht
        clear ht h2 h3 hc hall
        obtain ⟨V, hV⟩ : ∃ V, V = w.drewN nn := ⟨_, rfl⟩
        rw [← hV] at g2 g3 ⊢
        have HV := Lib.hid hV
        clear hV
        generalize (f k).n = n at *
        generalize (f k).s = sx at *
        by_cases h60 : t ≤ 6000
        · have h60' : ¬ (6000 : Int) < (t : Int) := by omega
          have HR := Lib.hid (show ∀ i, i < k + 1 → (f i).tl ≤ 6000 from fun i hi => by
            by_cases e : i = k
            · subst e; rw [← HT.out]; exact h60
            · exact C5.out i (by omega))
          clear h60
          go_wp2
          go_quiet (fail)
          go_wp2
          go_roundw
          case rel => exact ⟨k + 1, by omega, by omega, by go_num, ⟨nn + nq, by rw [HV.out]; exact drewN_add w nn nq⟩, HR.out⟩
          case measure => simp [intOf]; omega
        · have h60' : (6000 : Int) < (t : Int) := by omega
          clear h60
          go_wp2
          go_quiet (fail)
          go_wp2
          go_ret
          exact ⟨1, rfl, ⟨nn + nq, by rw [HV.out]; exact drewN_add w nn nq⟩, Lib.hid (gr_big hlt h61 (by rw [← HT.out]; omega)).symm⟩
      · have hm : max 0 ((len : Int) - 60) = (len : Int) - 60 := by omega
        have hlen : 61 ≤ len := by omega
        have h3i : (k : Int) < (len : Int) := by omega
        have h61' : ¬ (k : Int) < 61 := by omega
        have hwl : wrap64 ((len : Int) - 60) = (len : Int) - 60 := by unfold wrap64; omega
        go_wp2
        go_ret
        exact ⟨_, rfl, ⟨nn, rfl⟩, Lib.hid (by rw [gr_small (fun i hi => hall.out i (by omega))]; omega)⟩
    · obtain rfl : k = len := by omega
      by_cases h60 : k ≤ 60
      · have hm : max 0 ((k : Int) - 60) = 0 := by omega
        go_wp2
        go_ret
        exact ⟨_, rfl, ⟨nn, rfl⟩, Lib.hid (by rw [gr_small (fun i hi => hall.out i (by omega))]; omega)⟩
      · have hm : max 0 ((k : Int) - 60) = (k : Int) - 60 := by omega
        go_wp2
        go_ret
        exact ⟨_, rfl, ⟨nn, rfl⟩, Lib.hid (by rw [gr_small (fun i hi => hall.out i (by omega))]; omega)⟩
theorem great_one (A : Option Addr) (len cap : Nat) (f : Nat → ActD) (w : World) (B : Nat) (ha : Acts w B A len cap f) :
    Calls Tryz.prog 9 #[.slice A len cap] w fun e w' => e = .returned (.int .i64 (gr len f)) ∧ ∃ n, w' = w.drewN n := by
  refine (great_any A len cap f w B ha).mono ?_
  rintro e w' ⟨r, rfl, h, hr⟩
  rw [hr.out]
  exact ⟨rfl, h⟩
end Go.Proofs.YtnpebfolmdbipaaGreatDoor.Sk


namespace Go.Proofs.YtnpebfolmdbipaaGreatDoor.Sk
set_option maxRecDepth 8000
set_option linter.unusedVariables false
set_option linter.unusedSimpArgs false
open Go.RowKit Mem Go.ChangeMaps
/-- An act's text. -/
def textTo (s : List UInt8) : Nat → List UInt8
  | 0 => []
  | k + 1 => textTo s k ++ s
theorem length_textTo (s : List UInt8) (k : Nat) : (textTo s k).length = s.length * k := by
  induction k with
  | zero => rfl
  | succ k ih => rw [textTo, List.length_append, ih, Nat.mul_succ]
def ActD.text (a : ActD) : List UInt8 := textTo a.s (a.n % 300)
def ActD.val (a : ActD) : Value := .agg #[.int .u8 (a.dw : Int), .int .i64 a.p, .string (str a.s), .int .u16 (a.n : Int)]
theorem strCells_str (l : List UInt8) : Lib.strCells (str l) = l.map bv := by
  simp only [Lib.strCells, str]
  refine List.map_congr_left fun b _ => rfl
set_option maxHeartbeats 2000000 in
theorem text_any (dw n : Nat) (p : Int) (s : List UInt8) (w : World) (hn : n < 65536) (ht : s.length * (n % 300) ≤ 6000) :
    Calls Tryz.prog 13 #[.agg #[.int .u8 (dw : Int), .int .i64 p, .string (str s), .int .u16 (n : Int)]] w fun e w' => ∃ v, e = .returned v ∧ Mem.Own 5 w' w.heap.size v (textTo s (n % 300)) ∧ Below w.heap.size w w' := by
  obtain ⟨i0, hi, hz0, hz1, hz2⟩ := info_parts u8_info
  obtain ⟨W0, hW0⟩ : ∃ W0, W0 = w.alloc (.cells #[.int .u8 (dw : Int), .int .i64 p, .string (str s), .int .u16 (n : Int)] 32) := ⟨_, rfl⟩
  have hs0 : W0.heap.size = w.heap.size + 1 := by rw [hW0]; simp
  have hB0 : Below w.heap.size w W0 := by rw [hW0]; exact (Below.refl _ w).alloc (Nat.le_refl _) _
  have k2 : W0.cell? ⟨w.heap.size, 2, none⟩ = some (.string (str s)) := by rw [hW0, cell_of_row _ _ _ _ _ _ (heap_alloc_new w _)]; rfl
  have k3 : W0.cell? ⟨w.heap.size, 3, none⟩ = some (.int .u16 (n : Int)) := by rw [hW0, cell_of_row _ _ _ _ _ _ (heap_alloc_new w _)]; rfl
  have HB := Lib.hid hB0
  have HS := Lib.hid hs0
  have HK := Lib.hid (And.intro k2 k3)
  have HSZ := Lib.hid (Ref.str_size s)
  have HT := Lib.hid ht
  have hlt : n % 300 < 300 := Nat.mod_lt _ (by omega)
  go_enter Tryz.func13, Tryz.ntmps13
  go_wp2
  rw [← hW0]
  clear hB0 hs0 ht k2 k3 hW0
  go_loopw [3, 4] (fun v i wr => ∃ k : Nat, k ≤ n % 300 ∧ i = .int .i64 k ∧ Hid (Mem.Own 5 wr W0.heap.size v (textTo s k)) ∧ Hid (Below W0.heap.size W0 wr)) (fun _ i _ => n % 300 - (intOf i).toNat)
  case atStart => exact ⟨0, Nat.zero_le _, rfl, Lib.hid (Mem.Own.nil _ _ _), Lib.hid (Below.refl _ _)⟩
  case round =>
    obtain ⟨k, hk, rfl, HO, HBL⟩ := hrel
    obtain ⟨Ao, co, rfl, _⟩ := HO.out.form
    have c2 : wr.cell? ⟨w.heap.size, 2, none⟩ = some (.string (str s)) := (HBL.out.cell (p := ⟨w.heap.size, 2, none⟩) (by have := HS.out; show w.heap.size < _; omega)).trans HK.out.1
    have c3 : wr.cell? ⟨w.heap.size, 3, none⟩ = some (.int .u16 (n : Int)) := (HBL.out.cell (p := ⟨w.heap.size, 3, none⟩) (by have := HS.out; show w.heap.size < _; omega)).trans HK.out.2
    by_cases hkl : k < n % 300
    · have h1 : (k : Int) < (n : Int) % 300 := by omega
      have hle : s.length * (k + 1) ≤ 6000 := by
        have := HT.out
        have h2 := Nat.mul_le_mul_left s.length (show k + 1 ≤ n % 300 by omega)
        omega
      have hlk : (textTo s k).length + s.length ≤ 6000 := by rw [length_textTo]; rw [Nat.mul_succ] at hle; exact hle
      have HLK := Lib.hid hlk
      clear hlk hle
      go_wp2_with (at_builtin; refine Lib.wpList_append_own_string _ rfl _ _ 36 9 rfl W0.heap.size 5 i0 Tryz.underlying36 Tryz.underlying9 hi hz0 hz1 hz2 _ _ _ rfl HO.out (str s) rfl (by rw [HSZ.out]; have := HLK.out; unfold maxLen; omega) (by rw [HSZ.out]; have := HLK.out; omega) HBL.out.size ?_; intro v2 w2 o2 g2 _; rw [strCells_str, ← List.map_append, HSZ.out, ← List.length_append] at o2; have O2 := Lib.hid (show Mem.Own 5 w2 W0.heap.size v2 (textTo s (k + 1)) from o2); have hf2 := o2; have B2 := Lib.hid (HBL.out.grown g2 HBL.out.size (fun j e => (World.ownsRow.lt HO.out j e).1)); clear o2 g2)
      go_roundw
      case rel => exact ⟨k + 1, by omega, by go_num, O2, B2⟩
      case measure => simp [intOf]; omega
    · obtain rfl : k = n % 300 := by omega
      have h1 : ¬ ((n % 300 : Nat) : Int) < (n : Int) % 300 := by omega
      have h2 : ((n % 300 : Nat) : Int) = (n : Int) % 300 := by omega
      go_wp2
      go_ret
      exact ⟨_, rfl, HO.out.mono (by have := HS.out; omega), HB.out.trans (HBL.out.mono (by have := HS.out; omega))⟩
theorem Text_any (a : ActD) (w : World) (hn : a.n < 65536) (ht : a.tl ≤ 6000) :
    Calls Tryz.prog 13 #[a.val] w fun e w' => ∃ v, e = .returned v ∧ Mem.Own 5 w' w.heap.size v a.text ∧ Below w.heap.size w w' :=
  text_any a.dw a.n a.p a.s w hn ht
end Go.Proofs.YtnpebfolmdbipaaGreatDoor.Sk

namespace Go.Proofs.YtnpebfolmdbipaaGreatDoor.Sk
set_option maxRecDepth 8000
set_option linter.unusedVariables false
set_option linter.unusedSimpArgs false
open Go.RowKit Mem Go.ChangeMaps
open Dk (cod elem cod_inj elem_mk elem_inv key key_inj wf_key keyed3 MapIs Fr ptr hmf cell_alloc cell_alloc_new zero42 IsD Dsk Lay drewN_cell Kp ref_zero newD newY)
theorem doM_good {s : Sto} {d : Dsk} (hg : SGood s) : SGood (doM s d) := by unfold doM; split; exact hg; exact mark_good hg
theorem doM_n (s : Sto) (d : Dsk) : (doM s d).n = s.n := by unfold doM; split <;> rfl
theorem back_n (s : Sto) (m : Nat) : (s.back m).n = s.n := by unfold Sto.back; split <;> rfl
theorem doB_good {s : Sto} {d : Dsk} {m : Int} (hg : SGood s) : SGood (doB s d m) := by
  unfold doB
  split
  · exact hg
  · split
    · exact hg
    · rename_i h
      simp [Sto.badB] at h
      exact back_good hg (by omega)
theorem doB_n (s : Sto) (d : Dsk) (m : Int) : (doB s d m).n = s.n := by
  unfold doB; split
  · rfl
  · split
    · rfl
    · exact back_n _ _
section
variable {B : Nat} {W w w' : World} {sb db : Nat} {y y' : SLay} {s s' : Sto} {yd yd' : Lay} {d d' : Dsk} {m m' : Nat}
theorem Bo.Mark (bo : Bo B W w sb db y yd s d m) (hm : m < 90000000) :
    Calls Tryz.prog 19 #[pt sb] w fun e w' => e = .returned (.int .i64 (ansM s d)) ∧ ∃ y', Bo B W w' sb db y' yd (doM s d) d (m + 1) ∧ Kf (both y yd) w w' (both y' yd) := by
  have := bo.sm
  refine (Mark_any bo.is bo.st.is (by omega)).mono ?_
  rintro e w' ⟨rfl, y1, h1, k1, m1⟩
  exact ⟨rfl, y1, bo.ofIs h1 (doM_good bo.good) (doM_n _ _) (by omega) (by omega) k1.kf⟩
theorem Bo.Back (bo : Bo B W w sb db y yd s d m) (r : Int) (hm : m + s.us.length < 90000000) :
    Calls Tryz.prog 21 #[pt sb, .int .i64 r] w fun e w' => e = .returned (.int .i64 (ansB s d r)) ∧ ∃ y', Bo B W w' sb db y' yd (doB s d r) d (m + s.us.length) ∧ Kf (both y yd) w w' (both y' yd) := by
  have := bo.sm
  refine (Back_any bo.is bo.st.is bo.good r (by omega)).mono ?_
  rintro e w' ⟨rfl, y1, h1, k1, m1⟩
  exact ⟨rfl, y1, bo.ofIs h1 (doB_good bo.good) (doB_n _ _ _) (by omega) (by omega) k1.kf⟩
end
/-- What an act does, but 5, 7 and 8. -/
def doA (s : Sto) (d : Dsk) (a : ActD) : Sto :=
  if a.dw % 9 = 0 then doT s d a.text else if a.dw % 9 = 1 then doG s d a.p else if a.dw % 9 = 2 then doR s d a.p else if a.dw % 9 = 3 then doM s d else if a.dw % 9 = 4 then doB s d a.p else if a.dw % 9 = 6 then s.begin s.kept else s
section
variable {B : Nat} {W w w' : World} {sb db : Nat} {y y' : SLay} {s s' : Sto} {yd yd' : Lay} {d d' : Dsk} {m m' : Nat}
set_option maxHeartbeats 2000000 in
theorem does_any (bo : Bo B W w sb db y yd s d m) (a : ActD) (hd : a.dw < 256) (hn : a.n < 65536) (ht : a.tl ≤ 6000) (hm : m + s.us.length < 80000000) :
    Calls Tryz.prog 32 #[pt sb, a.val] w fun e w' => e = .returned (.tuple #[]) ∧ ∃ y', Bo B W w' sb db y' yd (doA s d a) d (m + 2 + s.us.length) ∧ Kf (both y yd) w w' (both y' yd) := by
  obtain ⟨dw, p, sx, n⟩ := a
  have hb0 : Below w.heap.size w (w.alloc (.cells #[.int .u8 (dw : Int), .int .i64 p, .string (str sx), .int .u16 (n : Int)] 32)) := (Below.refl _ w).alloc (Nat.le_refl _) _
  have B0 := Lib.hid (bo.keep hb0)
  have K0 := Lib.hid (Kf.ofBelow (both y yd) hb0)
  have HD : dw < 256 := hd
  have HT := Lib.hid (show sx.length * (n % 300) ≤ 6000 from ht)
  have HN := Lib.hid (show n < 65536 from hn)
  have HM := Lib.hid hm
  show Calls Tryz.prog 32 #[pt sb, .agg #[.int .u8 (dw : Int), .int .i64 p, .string (str sx), .int .u16 (n : Int)]] w _
  obtain ⟨W1, hW1⟩ : ∃ W1, W1 = w.alloc (.cells #[.int .u8 (dw : Int), .int .i64 p, .string (str sx), .int .u16 (n : Int)] 32) := ⟨_, rfl⟩
  rw [← hW1] at B0 K0
  have k0 : W1.cell? ⟨w.heap.size, 0, none⟩ = some (.int .u8 (dw : Int)) := by rw [hW1, cell_of_row _ _ _ _ _ _ (heap_alloc_new w _)]; rfl
  have k1 : W1.cell? ⟨w.heap.size, 1, none⟩ = some (.int .i64 p) := by rw [hW1, cell_of_row _ _ _ _ _ _ (heap_alloc_new w _)]; rfl
  have k2 : W1.cell? ⟨w.heap.size, 2, none⟩ = some (.string (str sx)) := by rw [hW1, cell_of_row _ _ _ _ _ _ (heap_alloc_new w _)]; rfl
  have k3 : W1.cell? ⟨w.heap.size, 3, none⟩ = some (.int .u16 (n : Int)) := by rw [hW1, cell_of_row _ _ _ _ _ _ (heap_alloc_new w _)]; rfl
  have HW := Lib.hid hW1
  clear bo hd hn ht hm hb0 hW1
  have hr : dw % 9 < 9 := Nat.mod_lt _ (by omega)
  have hri : (dw : Int) % 9 = ((dw % 9 : Nat) : Int) := by omega
  have hdo : doA s d ⟨dw, p, sx, n⟩ = if dw % 9 = 0 then doT s d (textTo sx (n % 300)) else if dw % 9 = 1 then doG s d p else if dw % 9 = 2 then doR s d p else if dw % 9 = 3 then doM s d else if dw % 9 = 4 then doB s d p else if dw % 9 = 6 then s.begin s.kept else s := rfl
  rw [hdo]
  generalize dw % 9 = r at hr hri
  rcases (by omega : r = 0 ∨ r = 1 ∨ r = 2 ∨ r = 3 ∨ r = 4 ∨ r = 5 ∨ r = 6 ∨ r = 7 ∨ r = 8) with rfl | rfl | rfl | rfl | rfl | rfl | rfl | rfl | rfl
  · have h9 : (dw : Int) % 9 = 0 := by omega
    clear hri hdo hr
    simp only [Nat.reduceEqDiff, if_true, if_false, reduceIte, reduceCtorEq, Nat.succ_ne_zero]
    go_enter Tryz.func32, Tryz.ntmps32
    go_wp2_with (first
      | (go_at_call 12; refine ((B0.out.keep H1.out).Take A1 c1 _ _ R1.out rfl (by have := HM.out; omega)).mono ?_; rintro e w2 ⟨rfl, y2, b2, kf2⟩; have B2 := Lib.hid b2; have K2 := Lib.hid kf2; clear b2 kf2)
      | (go_at_call 13; (try rw [← HW.out]); refine (text_any dw n p sx _ HN.out HT.out).mono ?_; rintro e w1 ⟨v1, rfl, ho, hb⟩; obtain ⟨A1, c1, rfl, hr1, _⟩ := ho.form; have H1 := Lib.hid hb; have R1 := Lib.hid hr1; clear ho hb hr1))
    first | go_end0 | (simp only [Exit.inBlock, Exit.then]; refine bodyPost_ret (results_none rfl _ _ _) rfl ?_) | refine bodyPost_ret (results_none rfl _ _ _) rfl ?_
    exact ⟨rfl, y2, B2.out.mono (by omega), K0.out.trans ((Kf.ofBelow (both y yd) H1.out).trans K2.out)⟩
  · have h9 : (dw : Int) % 9 = 1 := by omega
    clear hri hdo hr
    simp only [Nat.reduceEqDiff, if_true, if_false, reduceIte, reduceCtorEq, Nat.succ_ne_zero]
    go_enter Tryz.func32, Tryz.ntmps32
    go_wp2_with (go_at_call 15; (try rw [← HW.out]); refine (B0.out.Give p (by have := HM.out; omega)).mono ?_; rintro e w2 ⟨rfl, y2, b2, kf2⟩; have B2 := Lib.hid b2; have K2 := Lib.hid kf2; clear b2 kf2)
    first | go_end0 | (simp only [Exit.inBlock, Exit.then]; refine bodyPost_ret (results_none rfl _ _ _) rfl ?_) | refine bodyPost_ret (results_none rfl _ _ _) rfl ?_
    exact ⟨rfl, y2, B2.out.mono (by omega), K0.out.trans K2.out⟩
  · have h9 : (dw : Int) % 9 = 2 := by omega
    clear hri hdo hr
    simp only [Nat.reduceEqDiff, if_true, if_false, reduceIte, reduceCtorEq, Nat.succ_ne_zero]
    go_enter Tryz.func32, Tryz.ntmps32
    go_wp2_with (go_at_call 17; (try rw [← HW.out]); refine (B0.out.SetRoot p (by have := HM.out; omega)).mono ?_; rintro e w2 ⟨rfl, y2, b2, kf2⟩; have B2 := Lib.hid b2; have K2 := Lib.hid kf2; clear b2 kf2)
    first | go_end0 | (simp only [Exit.inBlock, Exit.then]; refine bodyPost_ret (results_none rfl _ _ _) rfl ?_) | refine bodyPost_ret (results_none rfl _ _ _) rfl ?_
    exact ⟨rfl, y2, B2.out.mono (by omega), K0.out.trans K2.out⟩
  · have h9 : (dw : Int) % 9 = 3 := by omega
    clear hri hdo hr
    simp only [Nat.reduceEqDiff, if_true, if_false, reduceIte, reduceCtorEq, Nat.succ_ne_zero]
    go_enter Tryz.func32, Tryz.ntmps32
    go_wp2_with (go_at_call 19; (try rw [← HW.out]); refine (B0.out.Mark (by have := HM.out; omega)).mono ?_; rintro e w2 ⟨rfl, y2, b2, kf2⟩; have B2 := Lib.hid b2; have K2 := Lib.hid kf2; clear b2 kf2)
    first | go_end0 | (simp only [Exit.inBlock, Exit.then]; refine bodyPost_ret (results_none rfl _ _ _) rfl ?_) | refine bodyPost_ret (results_none rfl _ _ _) rfl ?_
    exact ⟨rfl, y2, B2.out.mono (by omega), K0.out.trans K2.out⟩
  · have h9 : (dw : Int) % 9 = 4 := by omega
    clear hri hdo hr
    simp only [Nat.reduceEqDiff, if_true, if_false, reduceIte, reduceCtorEq, Nat.succ_ne_zero]
    go_enter Tryz.func32, Tryz.ntmps32
    go_wp2_with (go_at_call 21; (try rw [← HW.out]); refine (B0.out.Back p (by have := HM.out; omega)).mono ?_; rintro e w2 ⟨rfl, y2, b2, kf2⟩; have B2 := Lib.hid b2; have K2 := Lib.hid kf2; clear b2 kf2)
    first | go_end0 | (simp only [Exit.inBlock, Exit.then]; refine bodyPost_ret (results_none rfl _ _ _) rfl ?_) | refine bodyPost_ret (results_none rfl _ _ _) rfl ?_
    exact ⟨rfl, y2, B2.out.mono (by omega), K0.out.trans K2.out⟩
  · have h9 : (dw : Int) % 9 = 5 := by omega
    clear hri hdo hr
    simp only [Nat.reduceEqDiff, if_true, if_false, reduceIte, reduceCtorEq, Nat.succ_ne_zero]
    go_enter Tryz.func32, Tryz.ntmps32
    go_wp2_with (fail)
    first | go_end0 | (simp only [Exit.inBlock, Exit.then]; refine bodyPost_ret (results_none rfl _ _ _) rfl ?_) | refine bodyPost_ret (results_none rfl _ _ _) rfl ?_
    (try rw [← HW.out])
    exact ⟨rfl, y, B0.out.mono (by omega), K0.out⟩
  · have h9 : (dw : Int) % 9 = 6 := by omega
    clear hri hdo hr
    simp only [Nat.reduceEqDiff, if_true, if_false, reduceIte, reduceCtorEq, Nat.succ_ne_zero]
    go_enter Tryz.func32, Tryz.ntmps32
    go_wp2_with (go_at_call 25; (try rw [← HW.out]); refine (B0.out.Abort).mono ?_; rintro e w2 ⟨rfl, y2, b2, kf2⟩; have B2 := Lib.hid b2; have K2 := Lib.hid kf2; clear b2 kf2)
    first | go_end0 | (simp only [Exit.inBlock, Exit.then]; refine bodyPost_ret (results_none rfl _ _ _) rfl ?_) | refine bodyPost_ret (results_none rfl _ _ _) rfl ?_
    exact ⟨rfl, y2, B2.out.mono (by omega), K0.out.trans K2.out⟩
  · have h9 : (dw : Int) % 9 = 7 := by omega
    clear hri hdo hr
    simp only [Nat.reduceEqDiff, if_true, if_false, reduceIte, reduceCtorEq, Nat.succ_ne_zero]
    go_enter Tryz.func32, Tryz.ntmps32
    go_wp2_with (fail)
    first | go_end0 | (simp only [Exit.inBlock, Exit.then]; refine bodyPost_ret (results_none rfl _ _ _) rfl ?_) | refine bodyPost_ret (results_none rfl _ _ _) rfl ?_
    (try rw [← HW.out])
    exact ⟨rfl, y, B0.out.mono (by omega), K0.out⟩
  · have h9 : (dw : Int) % 9 = 8 := by omega
    clear hri hdo hr
    simp only [Nat.reduceEqDiff, if_true, if_false, reduceIte, reduceCtorEq, Nat.succ_ne_zero]
    go_enter Tryz.func32, Tryz.ntmps32
    go_wp2_with (fail)
    first | go_end0 | (simp only [Exit.inBlock, Exit.then]; refine bodyPost_ret (results_none rfl _ _ _) rfl ?_) | refine bodyPost_ret (results_none rfl _ _ _) rfl ?_
    (try rw [← HW.out])
    exact ⟨rfl, y, B0.out.mono (by omega), K0.out⟩
end
end Go.Proofs.YtnpebfolmdbipaaGreatDoor.Sk

namespace Go.Proofs.YtnpebfolmdbipaaGreatDoor.Sk
set_option maxRecDepth 8000
set_option linter.unusedVariables false
set_option linter.unusedSimpArgs false
open Go.RowKit Mem Go.ChangeMaps
open Dk (cod elem cod_inj elem_mk elem_inv key key_inj wf_key keyed3 MapIs Fr ptr hmf cell_alloc cell_alloc_new zero42 IsD Dsk Lay drewN_cell Kp ref_zero newD newY)
/-! ### A map of texts, its keys numbers of pages -/
def valD (o : Option (List UInt8)) (zd : DataW Unit) : DataW Unit := match o with
  | some l => .lit (.string l)
  | none => zd
def MapS (w : World) (b m : Nat) (V : Pages) : Prop :=
  ∃ D, w.ownsMap Tryz.prog 3 (plainElem (H := Unit) Tryz.prog 9) b m D ∧ (∀ k : Nat, k < 4096 → Maps.has D (key k) = (V k).isSome ∧ ∀ zd, D.atKey (key k) zd = valD (V k) zd) ∧ ∀ kl, Maps.has D kl = true → ∃ k : Nat, k < 4096 ∧ kl = key k
theorem str_list (l : List UInt8) : (str l).data.toList = l := by simp [str]
theorem str_of (s : ByteArray) (l : List UInt8) (h : s.data.toList = l) : s = str l := by
  subst h; simp [str]
theorem plS_str (l : List UInt8) (h : l.length ≤ maxLen) : (plainElem (H := Unit) Tryz.prog 9) (.string (str l)) = some (.lit (.string l), []) := by
  have := plainElem_string (H := Unit) (P := Tryz.prog) (e := 9) Tryz.underlying9 (s := str l) (by rw [Ref.str_size]; exact h)
  rwa [str_list] at this
theorem plS_inv {v : Value} {l : List UInt8} {ps : List MemPlace} (h : (plainElem (H := Unit) Tryz.prog 9) v = some (.lit (.string l), ps)) : v = .string (str l) := by
  obtain ⟨s, rfl, e, _⟩ := plainElem_string_inv (H := Unit) (P := Tryz.prog) (e := 9) Tryz.underlying9 h
  injection e with e _
  injection e with e; injection e with e
  rw [str_of s l e.symm]
theorem zero9 (w : World) : (zeroValue 9).run Tryz.prog w = .ok (.string (str [])) w := by kernel_rfl
section
variable {w w' : World} {b m : Nat} {V : Pages}
theorem MapS.made (w : World) : MapS (w.alloc (.map #[] 0)) w.heap.size 0 (fun _ => none) :=
  ⟨.map [], World.ownsMap_made w Tryz.prog 3 (plainElem (H := Unit) Tryz.prog 9), fun k _ => ⟨rfl, fun _ => rfl⟩, fun kl h => by cases h⟩
theorem MapS.lt (h : MapS w b m V) : b < w.heap.size := by obtain ⟨D, h1, _⟩ := h; exact h1.lt
theorem MapS.mono (h : MapS w b m V) {m' : Nat} (hm : m ≤ m') : MapS w b m' V := by obtain ⟨D, h1, h2⟩ := h; exact ⟨D, h1.mono hm, h2⟩
theorem MapS.of_block (h : MapS w b m V) (e : w'.heap[b]? = w.heap[b]?) : MapS w' b m V := by
  obtain ⟨D, ⟨es, cl, hb, r⟩, hv⟩ := h
  exact ⟨D, ⟨es, cl, e.trans hb, r⟩, hv⟩
theorem MapS.store (h : MapS w b m V) (hm : m < maxLen) (k : Nat) (hk : k < 4096) (l : List UInt8) (hl : l.length ≤ maxLen) :
    ∃ w', (Instr.mapUpdate 48 (.map (some b)) (.int .i64 k) (.string (str l))).run Tryz.prog w = .ok () w' ∧ MapS w' b (m + 1) (V.put k (some l)) ∧ w.mapTurned w' b := by
  obtain ⟨D, ho, hV, hB⟩ := h
  have hkey := Maps.keyOf_int_mk Tryz.underlying3 (wf_key k (by omega))
  obtain ⟨w', hrun, ho', hg⟩ := ho.store keyed3 Tryz.underlying48 hm hkey (plS_str l hl)
  have hI := ho.isMap
  refine ⟨w', hrun, ⟨_, ho', fun j hj => ?_, fun kl hkl => ?_⟩, hg⟩
  · by_cases e : j = k
    · subst e
      rw [put_same]
      exact ⟨Maps.has_put_same hI (keyed3.key hkey) _, fun zd => Maps.atKey_put_same hI (keyed3.key hkey) _ _⟩
    · rw [put_other _ _ e]
      exact ⟨(Maps.has_put_other (key_inj e) _).trans (hV j hj).1, fun zd => (Maps.atKey_put_other (key_inj e) _ _).trans ((hV j hj).2 zd)⟩
  · by_cases e : kl = key k
    · exact ⟨k, hk, e⟩
    · rw [Maps.has_put_other e] at hkl
      exact hB kl hkl
theorem MapS.look (h : MapS w b m V) (k : Nat) (hk : k < 4096) :
    (Instr.lookup 48 (.map (some b)) (.int .i64 k) false).run Tryz.prog w = .ok (.string (str ((V k).getD []))) w := by
  obtain ⟨D, ho, hv, _⟩ := h
  obtain ⟨v, ps, hrun, hR⟩ := ho.lookup keyed3 Tryz.underlying48 (zero9 w) (plS_str [] (by unfold maxLen; simp)) (Maps.keyOf_int_mk Tryz.underlying3 (wf_key k (by omega)))
  rw [(hv k hk).2] at hR
  have e : valD (V k) (.lit (.string [])) = .lit (.string ((V k).getD [])) := by cases V k <;> rfl
  rw [e] at hR
  rw [hrun, plS_inv hR]
theorem MapS.look_ok (h : MapS w b m V) (k : Nat) (hk : k < 4096) :
    (Instr.lookup 48 (.map (some b)) (.int .i64 k) true).run Tryz.prog w = .ok (.tuple #[.string (str ((V k).getD [])), .bool (V k).isSome]) w := by
  obtain ⟨D, ho, hv, _⟩ := h
  obtain ⟨v, ps, hrun, hR⟩ := ho.look_ok keyed3 Tryz.underlying48 (zero9 w) (plS_str [] (by unfold maxLen; simp)) (Maps.keyOf_int_mk Tryz.underlying3 (wf_key k (by omega)))
  rw [(hv k hk).2] at hR
  have e : valD (V k) (.lit (.string [])) = .lit (.string ((V k).getD [])) := by cases V k <;> rfl
  rw [e] at hR
  rw [hrun, plS_inv hR, (hv k hk).1]
/-- How many there are depends on what there is alone. -/
theorem MapS.len (h : MapS w b m V) : ∃ c : Nat, (∀ ty, (Builtin.len_ #[48] ty #[.map (some b)]).run Tryz.prog w = .ok (.int .i64 (c : Int)) w) ∧ ∀ (w2 : World) (b2 m2 : Nat), MapS w2 b2 m2 V → ∀ ty, (Builtin.len_ #[48] ty #[.map (some b2)]).run Tryz.prog w2 = .ok (.int .i64 (c : Int)) w2 := by
  obtain ⟨D, ho, hv, hB⟩ := h
  refine ⟨Maps.size D, fun ty => ho.len Tryz.underlying48 ty, fun w2 b2 m2 h2 ty => ?_⟩
  obtain ⟨D2, ho2, hv2, hB2⟩ := h2
  have e : D2 = D := by
    have hh : ∀ k, Maps.has D2 k = Maps.has D k := fun kl => by
      rw [Bool.eq_iff_iff]
      constructor
      · intro e
        obtain ⟨k, hk, rfl⟩ := hB2 kl e
        rw [(hv k hk).1, ← (hv2 k hk).1]; exact e
      · intro e
        obtain ⟨k, hk, rfl⟩ := hB kl e
        rw [(hv2 k hk).1, ← (hv k hk).1]; exact e
    refine Maps.ext (ho2.canon keyed3) (ho.canon keyed3) hh fun kl z e => ?_
    obtain ⟨k, hk, rfl⟩ := hB2 kl e
    rw [(hv k hk).2, (hv2 k hk).2]
  rw [← e]
  exact ho2.len Tryz.underlying48 ty
end
end Go.Proofs.YtnpebfolmdbipaaGreatDoor.Sk

namespace Go.Proofs.YtnpebfolmdbipaaGreatDoor.Sk
set_option maxRecDepth 8000
set_option linter.unusedVariables false
set_option linter.unusedSimpArgs false
open Go.RowKit Mem Go.ChangeMaps
open Dk (cod elem cod_inj elem_mk elem_inv key key_inj wf_key keyed3 MapIs Fr ptr hmf cell_alloc cell_alloc_new zero42 IsD Dsk Lay drewN_cell Kp ref_zero newD newY)
/-- What the pages below n hold, as far as they are taken. -/
def shotV (s : Sto) (d : Dsk) (n : Nat) : Pages := fun p => if p < n ∧ s.cur.now.has p = true then rdOf s d p else none
theorem shotV_yes {s : Sto} {d : Dsk} {k : Nat} {l : List UInt8} (h : s.cur.now.has k = true) (hl : rdOf s d k = some l) : shotV s d (k + 1) = (shotV s d k).put k (some l) := by
  funext q; unfold shotV Pages.put
  by_cases e : q = k
  · subst e; rw [if_pos ⟨by omega, h⟩, if_pos rfl, hl]
  · rw [if_neg e]
    show _ = if q < k ∧ s.cur.now.has q = true then rdOf s d q else none
    by_cases h2 : q < k ∧ s.cur.now.has q = true
    · rw [if_pos h2, if_pos ⟨by omega, h2.2⟩]
    · rw [if_neg h2, if_neg (fun h3 => h2 ⟨by omega, h3.2⟩)]
theorem shotV_no {s : Sto} {d : Dsk} {k : Nat} (h : s.cur.now.has k = false) : shotV s d (k + 1) = shotV s d k := by
  funext q; unfold shotV
  by_cases h2 : q < k ∧ s.cur.now.has q = true
  · rw [if_pos h2, if_pos ⟨by omega, h2.2⟩]
  · rw [if_neg h2, if_neg (fun h3 => h2 ⟨by
      have : q ≠ k := fun e => by rw [e, h] at h3; cases h3.2
      omega, h3.2⟩)]
section
variable {B : Nat} {W w w' : World} {sb db : Nat} {y y' : SLay} {s s' : Sto} {yd yd' : Lay} {d d' : Dsk} {m m' : Nat}
theorem Bo.Root (bo : Bo B W w sb db y yd s d m) (hg : gone s d = false) :
    Calls Tryz.prog 40 #[pt sb] w fun e w' => e = .returned (.int .i64 (s.cur.now.root : Int)) ∧ Below w.heap.size w w' := by
  have := Root_any bo.is bo.st.is
  rw [hg] at this
  exact this
set_option maxHeartbeats 2000000 in
theorem shot_any (bo : Bo B W w sb db y yd s d m) (hg : gone s d = false) (n : Nat) (hn : n ≤ 4096) (hR : ∀ p, p < n → s.cur.now.has p = true → (rdOf s d p).isSome = true) (hrl : ∀ p l, rdOf s d p = some l → l.length ≤ 5000) :
    Calls Tryz.prog 31 #[pt sb, .int .i64 (n : Int)] w fun e w' => ∃ b, e = .returned (.tuple #[.agg #[.int .i64 (s.cur.now.root : Int), .map (some b)], .bool true]) ∧ MapS w' b 5000 (shotV s d n) ∧ w.heap.size ≤ b ∧ Below w.heap.size w w' := by
  have hmm := @run_makeMap Tryz.prog
  have BO := Lib.hid bo
  have HG := Lib.hid hg
  have HR := Lib.hid hR
  have HRL := Lib.hid hrl
  clear bo hg hR hrl
  go_enter Tryz.func31, Tryz.ntmps31
  go_wp2_with (first
    | (go_at_call 40; refine ((BO.out.keep ((Below.refl _ w).alloc (Nat.le_refl _) _)).Root HG.out).mono ?_; rintro e w1 ⟨rfl, hb1⟩; have B1 := Lib.hid hb1; clear hb1))
  obtain ⟨W1, hW1⟩ : ∃ W1, W1 = (w1.alloc (.map #[] 0)).alloc (.cells #[.int .i64 (s.cur.now.root : Int), .map (some w1.heap.size)] 50) := ⟨_, rfl⟩
  have hs1 : w.heap.size + 1 ≤ w1.heap.size := by have := B1.out.size; simpa using this
  have hb1 : Below w.heap.size w W1 := by
    rw [hW1]
    refine ((Below.trans ((Below.refl _ w).alloc (Nat.le_refl _) _) (B1.out.mono (by simp))).alloc (by omega) _).alloc (by simp; omega) _
  have hm1 : MapS W1 w1.heap.size 0 (shotV s d 0) := by
    have h0 : shotV s d 0 = fun _ => none := by funext q; unfold shotV; rw [if_neg (by omega)]
    rw [h0, hW1]
    exact (MapS.made w1).of_block (Below.heap_alloc _ _ _ (by simp))
  have hc6 : W1.heap[w1.heap.size + 1]? = some (.cells #[.int .i64 (s.cur.now.root : Int), .map (some w1.heap.size)] 50 (0, 0)) := by
    rw [hW1]
    have := heap_alloc_new (w1.alloc (.map #[] 0)) (.cells #[.int .i64 (s.cur.now.root : Int), .map (some w1.heap.size)] 50)
    rwa [World.size_alloc] at this
  have hc4 : W1.heap[w.heap.size]? = some (.cells #[.int .i64 0, .map none] 50 (0, 0)) := by
    rw [hW1]
    exact (Below.heap_alloc _ _ _ (by simp; omega)).trans ((Below.heap_alloc _ _ _ (by omega)).trans ((B1.out.block _ (by simp)).trans (heap_alloc_new w _)))
  have hsz1 : W1.heap.size = w1.heap.size + 2 := by rw [hW1]; simp
  rw [← hW1]
  have HB1 := Lib.hid hb1
  have HM1 := Lib.hid hm1
  have HC6 := Lib.hid hc6
  have HC4 := Lib.hid hc4
  have HSZ := Lib.hid (And.intro hs1 hsz1)
  clear hs1 hb1 hm1 hc6 hc4 hW1 B1 hmm hsz1
  generalize w1.heap.size = g at *
  go_loopw [7] (fun p wr => ∃ k : Nat, k ≤ n ∧ p = .int .i64 k ∧ Hid (MapS wr g k (shotV s d k)) ∧ Hid (Fr (fun j => j = g) W1 wr)) (fun p _ => n - (intOf p).toNat)
  case atStart => exact ⟨0, Nat.zero_le _, rfl, HM1, Lib.hid (Fr.refl _ _)⟩
  case round =>
    obtain ⟨k, hk, rfl, HM, HF⟩ := hrel
    have hbw : Below w.heap.size w wr := HB1.out.trans (Fr.below HF.out (by have := HSZ.out; omega) (fun j e => by have := HSZ.out; omega))
    have hb6 : wr.heap[g + 1]? = _ := (HF.out.block (g + 1) (by have := HSZ.out; omega) (by omega)).trans HC6.out
    have hb4 : wr.heap[w.heap.size]? = _ := (HF.out.block w.heap.size (by have := HSZ.out; omega) (by have := HSZ.out; omega)).trans HC4.out
    have HBW := Lib.hid hbw
    have HB6 := Lib.hid hb6
    have HB4 := Lib.hid hb4
    have HSW := Lib.hid (show w.heap.size ≤ g ∧ g + 2 ≤ wr.heap.size from ⟨by have := HSZ.out; omega, by have := HSZ.out; have := HF.out.size; omega⟩)
    clear hbw hb6 hb4
    by_cases hlt : k < n
    · have hlt' : (k : Int) < (n : Int) := by omega
      have hx := hasI_nat s.cur.now k (by omega)
      by_cases hh : s.cur.now.has k = true
      · obtain ⟨l, hl⟩ := Option.isSome_iff_exists.1 (HR.out k hlt hh)
        have ha : ansRd s d (k : Int) = 0 := by
          unfold ansRd
          rw [HG.out, hx, hh, Int.toNat_natCast, hl]; rfl
        have RD := ((BO.out.keep HBW.out).Read (k : Int))
        rw [ha] at RD
        have HRD := Lib.hid RD
        have HL := Lib.hid hl
        have HH := Lib.hid hh
        clear RD ha hx hl hh
        go_wp2_with (first
          | (go_at_call 39; refine HRD.out.mono ?_; rintro e w2 ⟨v2, rfl, o2, _, b2⟩; obtain ⟨l2, e2, o2⟩ := o2 rfl; obtain rfl : l = l2 := Option.some.inj (HL.out.symm.trans e2); obtain ⟨A2, c2, rfl, hr2, _⟩ := o2.form; have K2 : (convert 36 9 (.slice A2 l.length c2)).run Tryz.prog w2 = .ok (.string (str l)) w2 := run_str_rd w2 hr2; have hb6' := (b2.block (g + 1) (by have := HSW.out; omega)).trans HB6.out; have hq0 : w2.cell? ⟨g + 1, 0, none⟩ = some (.int .i64 (s.cur.now.root : Int)) := (by simp [World.cell?, hb6']); have hq1 : w2.cell? ⟨g + 1, 1, none⟩ = some (.map (some g)) := (by simp [World.cell?, hb6']); obtain ⟨w3, hrun, hm3, ht3⟩ := (HM.out.of_block (w' := w2) (b2.block g (by have := HSW.out; omega))).store (by unfold maxLen; omega) k (by omega) l (by have := HRL.out k l HL.out; unfold maxLen; omega); have HM3 := Lib.hid hm3; have HT3 := Lib.hid ht3; have HB2 := Lib.hid b2; clear e2 o2 hr2 b2 hb6' hm3 ht3))
        go_roundw
        case rel =>
          refine ⟨k + 1, by omega, by go_num, ?_, Lib.hid ((HF.out.trans (Fr.ofBelow HB2.out) (fun _ _ e => e)).trans (Fr.turned (F := fun j => j = g) HT3.out fun _ => rfl) (fun _ _ e => e))⟩
          rw [shotV_yes HH.out HL.out]
          exact HM3
        case measure => simp [intOf]; omega
      · have hh' : s.cur.now.has k = false := by simpa using hh
        have ha : ansRd s d (k : Int) = 1 := by
          unfold ansRd
          rw [HG.out, hx, hh']; rfl
        have RD := ((BO.out.keep HBW.out).Read (k : Int))
        rw [ha] at RD
        have HRD := Lib.hid RD
        have HH := Lib.hid hh'
        clear RD ha hx hh hh'
        go_wp2_with (first
          | (go_at_call 39; refine HRD.out.mono ?_; rintro e w2 ⟨v2, rfl, _, z2, b2⟩; obtain rfl := z2 (by omega); have HB2 := Lib.hid b2; clear b2))
        go_roundw
        case rel =>
          refine ⟨k + 1, by omega, by go_num, ?_, Lib.hid (HF.out.trans (Fr.ofBelow HB2.out) (fun _ _ e => e))⟩
          rw [shotV_no HH.out]
          exact Lib.hid ((HM.out.of_block (HB2.out.block g (by have := HSW.out; omega))).mono (by omega))
        case measure => simp [intOf]; omega
    · obtain rfl : k = n := by omega
      have hb6' := HB6.out
      have hb4' := HB4.out
      have hq0 : wr.cell? ⟨g + 1, 0, none⟩ = some (.int .i64 (s.cur.now.root : Int)) := by simp [World.cell?, hb6']
      have hq1 : wr.cell? ⟨g + 1, 1, none⟩ = some (.map (some g)) := by simp [World.cell?, hb6']
      have hp0 : wr.cell? ⟨w.heap.size, 0, none⟩ = some (.int .i64 0) := by simp [World.cell?, hb4']
      have hp1 : wr.cell? ⟨w.heap.size, 1, none⟩ = some (.map none) := by simp [World.cell?, hb4']
      have hf0 : wr.frozen? ⟨w.heap.size, 0, none⟩ = false := by simp [World.frozen?, hb4']
      have hf1 : wr.frozen? ⟨w.heap.size, 1, none⟩ = false := by simp [World.frozen?, hb4']
      clear hb6' hb4'
      go_wp2
      obtain ⟨X, hX⟩ : ∃ X, X = ((wr.setCell ⟨w.heap.size, 0, none⟩ (.int .i64 (s.cur.now.root : Int))).setCell ⟨w.heap.size, 1, none⟩ (.map (some g))) := ⟨_, rfl⟩
      rw [← hX]
      have hXb : X.heap[w.heap.size]? = some (.cells #[.int .i64 (s.cur.now.root : Int), .map (some g)] 50 (0, 0)) := by
        rw [hX]
        exact heap_setCell_same _ _ _ _ _ _ (heap_setCell_same _ _ _ _ _ _ HB4.out)
      have hXo : ∀ j, j ≠ w.heap.size → X.heap[j]? = wr.heap[j]? := fun j hj => by
        rw [hX]; exact (Below.heap_setCell _ _ _ _ hj).trans (Below.heap_setCell _ _ _ _ hj)
      have hXB : Below w.heap.size w X := by
        rw [hX]; exact (HBW.out.setCell (p := ⟨w.heap.size, 0, none⟩) (Nat.le_refl _) _).setCell (p := ⟨w.heap.size, 1, none⟩) (Nat.le_refl _) _
      refine bodyPost_ret (results_ct rfl w.heap.size [.int .i64 (s.cur.now.root : Int), .map (some g)] _ rfl (fun j v hv => ?_) Tryz.underlying50 rfl (by kernel_rfl)) rfl ?_
      · rw [Nat.zero_add, cell_of_row _ _ _ _ _ _ hXb]; simpa using hv
      · exact ⟨g, rfl, (HM.out.of_block (hXo g (by have := HSZ.out; omega))).mono (by omega), HSW.out.1, hXB⟩
end
end Go.Proofs.YtnpebfolmdbipaaGreatDoor.Sk

namespace Go.Proofs.YtnpebfolmdbipaaGreatDoor.Sk
set_option maxRecDepth 8000
set_option linter.unusedVariables false
set_option linter.unusedSimpArgs false
open Go.RowKit Mem Go.ChangeMaps
open Dk (cod elem cod_inj elem_mk elem_inv key key_inj wf_key keyed3 MapIs Fr ptr hmf cell_alloc cell_alloc_new zero42 IsD Dsk Lay drewN_cell Kp ref_zero newD newY)
theorem has_left {w : World} {b r n cnt : Nat} {D : DataW Unit} {left : Lit → Bool} (h : w.ranges Tryz.prog 3 (plainElem (H := Unit) Tryz.prog 9) b r n D left cnt) {x : Int} (hl : left (.int .i64 x) = true) : Maps.has D (.int .i64 x) = true := by
  obtain ⟨es, clock, since, seen, c0, hb, F, hs, hD, hr, h1, h2, h3, h4, _⟩ := h
  obtain ⟨e, he, hk⟩ := h4 _ hl
  rw [hD]
  exact List.any_eq_true.2 ⟨_, mem_sorted.2 (List.mem_map.2 ⟨e, he, rfl⟩), by rw [hk]; exact WideAt.sameKey_self trivial⟩
theorem str_inj {l k : List UInt8} (h : str l = str k) : l = k := by
  have := congrArg (fun s : ByteArray => s.data.toList) h
  simpa [str] using this
/-- What equal leaves. -/
def EqP (ra rb : Int) (Va Vb : Pages) (w : World) (e : Ending) (w' : World) : Prop := ∃ r : Bool, e = .returned (.bool r) ∧ (ra = rb → Va = Vb → r = true) ∧ Below w.heap.size w w'
set_option maxHeartbeats 2000000 in
theorem equal_any (w : World) (ra rb : Int) (ba bb ma mb : Nat) (Va Vb : Pages) (hA : MapS w ba ma Va) (hB : MapS w bb mb Vb) :
    Calls Tryz.prog 36 #[.agg #[.int .i64 ra, .map (some ba)], .agg #[.int .i64 rb, .map (some bb)]] w (EqP ra rb Va Vb w) := by
  obtain ⟨W1, hW1⟩ : ∃ W1, W1 = (w.alloc (.cells #[.int .i64 ra, .map (some ba)] 50)).alloc (.cells #[.int .i64 rb, .map (some bb)] 50) := ⟨_, rfl⟩
  have hs1 : W1.heap.size = w.heap.size + 2 := by rw [hW1]; simp
  have hb1 : Below w.heap.size w W1 := by rw [hW1]; exact ((Below.refl _ w).alloc (Nat.le_refl _) _).alloc (by simp) _
  have ka : W1.heap[w.heap.size]? = some (.cells #[.int .i64 ra, .map (some ba)] 50 (0, 0)) := by
    rw [hW1]; exact (Below.heap_alloc _ _ _ (by simp)).trans (heap_alloc_new w _)
  have kb : W1.heap[w.heap.size + 1]? = some (.cells #[.int .i64 rb, .map (some bb)] 50 (0, 0)) := by
    rw [hW1]
    have := heap_alloc_new (w.alloc (.cells #[.int .i64 ra, .map (some ba)] 50)) (.cells #[.int .i64 rb, .map (some bb)] 50)
    rwa [World.size_alloc] at this
  have c0 : W1.cell? ⟨w.heap.size, 0, none⟩ = some (.int .i64 ra) := by simp [World.cell?, ka]
  have c1 : W1.cell? ⟨w.heap.size, 1, none⟩ = some (.map (some ba)) := by simp [World.cell?, ka]
  have c2 : W1.cell? ⟨w.heap.size + 1, 0, none⟩ = some (.int .i64 rb) := by simp [World.cell?, kb]
  have c3 : W1.cell? ⟨w.heap.size + 1, 1, none⟩ = some (.map (some bb)) := by simp [World.cell?, kb]
  have hltA := hA.lt
  have hltB := hB.lt
  have hA1 : MapS W1 ba ma Va := hA.of_block (hb1.block _ hltA)
  have hB1 : MapS W1 bb mb Vb := hB.of_block (hb1.block _ hltB)
  obtain ⟨na, ln1, lnU⟩ := hA1.len
  obtain ⟨nb, ln2, _⟩ := hB1.len
  have hsame : Va = Vb → na = nb := fun e => by
    subst e
    have h1 := lnU W1 bb mb hB1 0
    rw [ln2 0] at h1
    injection h1 with h1
    injection h1 with h1
    omega
  have HS := Lib.hid hsame
  have HB1 := Lib.hid hb1
  have HSZ := Lib.hid (And.intro hs1 (And.intro hltA hltB))
  have HKA := Lib.hid (And.intro ka kb)
  have HA1 := Lib.hid hA1
  have HBm := Lib.hid hB1
  clear hsame hb1 hltA hltB hA hB hA1 hB1 ka kb lnU
  by_cases hr : ra = rb
  · subst hr
    by_cases hn : na = nb
    · subst hn
      obtain ⟨Da, hoA, hvA, hBA⟩ := HA1.out
      have HV := Lib.hid hvA
      have HK := Lib.hid hBA
      clear hvA hBA
      go_enter Tryz.func36, Tryz.ntmps36
      go_wp2_with (first
        | (rw [← hW1])
        | (rw [ln1]; simp only [Result.andThen_ok])
        | (rw [ln2]; simp only [Result.andThen_ok])
        | (at_range; refine wpList_range_own _ rfl _ 48 rfl 3 9 keyed3 Tryz.underlying48 _ ba ma _ rfl hoA ?_; intro w2 hrg2 hg2 hs2))
      rw [hs1] at hrg2
      have hO0 : ∀ j, j < w.heap.size + 1 + 1 → w2.heap[j]? = W1.heap[j]? := fun j hj => hg2.block j (by omega) (by simp)
      have HO0 := Lib.hid hO0
      have HRG := Lib.hid hrg2
      have HBW := Lib.hid (HB1.out.grown (B := w.heap.size) hg2 (by have := HSZ.out; omega) (fun j e => by cases e))
      clear hg2 hrg2 hs2 hO0 hs1 c0 c1 c2 c3 ln1 ln2
      go_loopw [] (fun wr => ∃ left cnt, Hid (wr.ranges Tryz.prog 3 (plainElem (H := Unit) Tryz.prog 9) ba (w.heap.size + 1 + 1) ma Da left cnt) ∧ Hid (∀ j, j < w.heap.size + 1 + 1 → wr.heap[j]? = W1.heap[j]?) ∧ Hid (Below w.heap.size w wr)) (fun wr => wr.rangeLeft ba (w.heap.size + 1 + 1))
      case atStart => exact ⟨_, _, HRG, HO0, HBW⟩
      case round =>
        obtain ⟨left, cnt, hrg, hO, hBl⟩ := hrel
        have hrg' := hrg.out
        go_wp2_with (first
          | (at_next; refine wpList_next_ranges_is _ rfl _ rfl 3 9 .i64 keyed3 Tryz.underlying3 Tryz.underlying9 ba (w.heap.size + 1 + 1) ma Da left cnt rfl hrg' ?_ ?_))
        · intro hc0 hl0
          clear hrg'
          go_wp2
          go_ret
          exact ⟨true, rfl, fun _ _ => rfl, hBl.out⟩
        · intro x c w3 cnt3 hwx hcs hlx hat hrg3 hlt3 hg3 hs3 hen
          obtain ⟨k, hk, hkx⟩ := HK.out _ (has_left hrg' hlx)
          injection hkx with _ hkx
          subst hkx
          obtain ⟨l, hl, rfl⟩ : ∃ l, Va k = some l ∧ c = str l := by
            have h1 := (HV.out k hk).2 .nil
            have h2 := hat .nil
            rw [show key k = Lit.int .i64 (k : Int) from rfl, h2] at h1
            cases hv : Va k with
            | none => rw [hv] at h1; cases h1
            | some l =>
              rw [hv] at h1
              injection h1 with h1; injection h1 with h1
              exact ⟨l, rfl, str_of c l h1⟩
          have hO3 : ∀ j, j < w.heap.size + 1 + 1 → w3.heap[j]? = W1.heap[j]? := fun j hj => by
            refine (hg3.block j ?_ (fun e => by injection e with e; omega)).trans (hO.out j hj)
            have h5 := hrg'.lt
            omega
          have e1 : w3.heap[w.heap.size]? = _ := (hO3 _ (by have := HSZ.out; omega)).trans HKA.out.1
          have e2 : w3.heap[w.heap.size + 1]? = _ := (hO3 _ (by have := HSZ.out; omega)).trans HKA.out.2
          have d1 : w3.cell? ⟨w.heap.size, 1, none⟩ = some (.map (some ba)) := by simp [World.cell?, e1]
          have d3 : w3.cell? ⟨w.heap.size + 1, 1, none⟩ = some (.map (some bb)) := by simp [World.cell?, e2]
          have mb3 : MapS w3 bb mb Vb := HBm.out.of_block (hO3 _ (by have := HSZ.out; omega))
          have ma3 : MapS w3 ba ma Va := ⟨Da, hrg3.owns, HV.out, HK.out⟩
          have q1 := mb3.look_ok k hk
          have q2 := ma3.look k hk
          rw [hl] at q2
          have HR3 := Lib.hid hrg3
          have HO3 := Lib.hid hO3
          have HB3 := Lib.hid (hBl.out.grown hg3 hBl.out.size (fun j e => by injection e with e; have := HSZ.out; omega))
          have HL := Lib.hid hl
          have HLT : Hid (w3.rangeLeft ba (w.heap.size + 1 + 1) < wr.rangeLeft ba (w.heap.size + 1 + 1)) := Lib.hid (by rw [hrg3.left_eq, hrg'.left_eq]; exact hlt3)
          clear hrg' hrg hO hBl hat hrg3 hg3 hs3 hlx hwx hcs hO3 e1 e2 mb3 ma3 hl hlt3
          cases hb : Vb k with
          | none =>
            rw [hb] at q1
            have HN := Lib.hid hb
            clear hb
            dsimp only [Option.isSome, Option.getD] at q1 q2
            go_wp2
            go_ret
            exact ⟨false, rfl, fun _ e => (by have h1 := HL.out; rw [e, HN.out] at h1; cases h1), HB3.out⟩
          | some l2 =>
            rw [hb] at q1
            have HN := Lib.hid hb
            clear hb
            dsimp only [Option.isSome, Option.getD] at q1 q2
            by_cases he : l2 = l
            · subst he
              go_wp2
              exact ⟨⟨_, _, HR3, HO3, HB3⟩, HLT.out⟩
            · have hne : str l2 ≠ str l := fun e => he (str_inj e)
              have HE := Lib.hid he
              clear he
              go_wp2
              all_goals first
                | exact ⟨⟨_, _, HR3, HO3, HB3⟩, HLT.out⟩
                | (go_ret; exact ⟨false, rfl, fun _ e => (by have h1 := HL.out; rw [e, HN.out] at h1; injection h1 with h1; exact absurd h1 HE.out), HB3.out⟩)
    · have hn' : ¬ (na : Int) = (nb : Int) := by omega
      go_enter Tryz.func36, Tryz.ntmps36
      go_wp2_with (first
        | (rw [← hW1])
        | (rw [ln1]; simp only [Result.andThen_ok])
        | (rw [ln2]; simp only [Result.andThen_ok]))
      go_ret
      exact ⟨false, rfl, fun _ e => absurd (HS.out e) hn, HB1.out⟩
  · go_enter Tryz.func36, Tryz.ntmps36
    go_wp2_with (first
      | (rw [← hW1])
      | (rw [ln1]; simp only [Result.andThen_ok])
      | (rw [ln2]; simp only [Result.andThen_ok]))
    go_ret
    exact ⟨false, rfl, fun e => absurd e hr, HB1.out⟩
end Go.Proofs.YtnpebfolmdbipaaGreatDoor.Sk

namespace Go.Proofs.YtnpebfolmdbipaaGreatDoor.Sk
set_option maxRecDepth 8000
set_option linter.unusedVariables false
set_option linter.unusedSimpArgs false
open Go.RowKit Mem Go.ChangeMaps
open Dk (cod elem cod_inj elem_mk elem_inv key key_inj wf_key keyed3 MapIs Fr ptr hmf cell_alloc cell_alloc_new zero42 IsD Dsk Lay drewN_cell Kp ref_zero newD newY)
/-! ### A store and a disk at rest, as data -/
/-- What an act turns of a store: not what is kept. -/
structure SameK (s s' : Sto) : Prop where
  n : s'.n = s.n
  kept : s'.kept = s.kept
  force : s'.inForce = s.inForce
  stamp : s'.stamp = s.stamp
  dead : s'.dead = s.dead
theorem SameK.refl (s : Sto) : SameK s s := ⟨rfl, rfl, rfl, rfl, rfl⟩
theorem SameK.trans {s t u : Sto} (h : SameK s t) (k : SameK t u) : SameK s u := ⟨k.n.trans h.n, k.kept.trans h.kept, k.force.trans h.force, k.stamp.trans h.stamp, k.dead.trans h.dead⟩
theorem doT_same (s : Sto) (d : Dsk) (l : List UInt8) : SameK s (doT s d l) := by unfold doT; split <;> exact ⟨rfl, rfl, rfl, rfl, rfl⟩
theorem doG_same (s : Sto) (d : Dsk) (r : Int) : SameK s (doG s d r) := by
  unfold doG
  repeat' split
  all_goals exact ⟨rfl, rfl, rfl, rfl, rfl⟩
theorem doR_same (s : Sto) (d : Dsk) (r : Int) : SameK s (doR s d r) := by
  unfold doR
  repeat' split
  all_goals exact ⟨rfl, rfl, rfl, rfl, rfl⟩
theorem doM_same (s : Sto) (d : Dsk) : SameK s (doM s d) := by unfold doM; split <;> exact ⟨rfl, rfl, rfl, rfl, rfl⟩
theorem back_same (s : Sto) (m : Nat) : SameK s (s.back m) := by unfold Sto.back; split <;> exact ⟨rfl, rfl, rfl, rfl, rfl⟩
theorem doB_same (s : Sto) (d : Dsk) (m : Int) : SameK s (doB s d m) := by
  unfold doB; split
  · exact SameK.refl s
  · split
    · exact SameK.refl s
    · exact back_same _ _
theorem doA_same (s : Sto) (d : Dsk) (a : ActD) : SameK s (doA s d a) := by
  unfold doA
  split
  · exact doT_same _ _ _
  · split
    · exact doG_same _ _ _
    · split
      · exact doR_same _ _ _
      · split
        · exact doM_same _ _
        · split
          · exact doB_same _ _ _
          · split
            · exact ⟨rfl, rfl, rfl, rfl, rfl⟩
            · exact SameK.refl s
theorem did_us (s : Sto) (u : Un) (v : Vw) : (s.did u v).us.length ≤ s.us.length + 1 := by
  unfold Sto.did
  show (if s.marks = [] then s.us else s.us ++ [(u, s.cur)]).length ≤ _
  split
  · omega
  · simp
theorem doA_us (s : Sto) (d : Dsk) (a : ActD) : (doA s d a).us.length ≤ s.us.length + 1 := by
  unfold doA
  split
  · unfold doT; split
    · exact did_us _ _ _
    · omega
  · split
    · unfold doG; repeat' split
      all_goals first | exact did_us _ _ _ | omega
    · split
      · unfold doR; repeat' split
        all_goals first | exact did_us _ _ _ | omega
      · split
        · unfold doM Sto.mark; split <;> simp
        · split
          · unfold doB Sto.back; repeat' split
            all_goals first | omega | (simp only [List.length_take]; omega)
          · split
            · simp [Sto.begin]
            · omega
/-- All that was done is on the disk, which has power, and a head says it. -/
structure Quiet (s : Sto) (d : Dsk) : Prop where
  liv : Liv d
  wait : ∀ j, d.wait j = none
  sd : s.dead = false
  nn : s.n = d.n
  good : SGood s
  lkK : (lkTo d d.n 2).kept = s.kept
  lkF : (lkTo d d.n 2).force = s.inForce
  lkS : (lkTo d d.n 2).stamp = s.stamp
  whole : ∀ p, s.kept.has p = true → Frm.whole (d.page p) p 2
theorem Quiet.act {s s' : Sto} {d : Dsk} (h : Quiet s d) (k : SameK s s') (hg : SGood s') : Quiet s' d :=
  { liv := h.liv, wait := h.wait, sd := k.dead.trans h.sd, nn := k.n.trans h.nn, good := hg, lkK := h.lkK.trans k.kept.symm, lkF := h.lkF.trans k.force.symm, lkS := h.lkS.trans k.stamp.symm
    whole := fun p hp => h.whole p (by rw [← k.kept]; exact hp) }
theorem Quiet.gone {s : Sto} {d : Dsk} (h : Quiet s d) : gone s d = false := by unfold Sk.gone; rw [h.sd, h.liv.dead]; rfl
/-- Each page that is taken can be read. -/
theorem Quiet.reads {s : Sto} {d : Dsk} (h : Quiet s d) (p : Nat) (hp : s.cur.now.has p = true) : (rdOf s d p).isSome = true := by
  unfold rdOf
  rcases hf : s.cur.fresh p with _ | l
  · have hk : s.kept.has p = true := by
      rcases hk : s.kept.has p with _ | _
      · exact absurd hf ((h.good.cur.fresh p).2 ⟨hp, hk⟩)
      · rfl
    show (if Frm.whole (d.page p) p 2 then some (Frm.held (d.page p)) else none).isSome = true
    rw [if_pos (h.whole p hk)]; rfl
  · rfl
theorem rdOf_len {s : Sto} {d : Dsk} (h : SGood s) (p : Nat) (l : List UInt8) (e : rdOf s d p = some l) : l.length ≤ 5000 := by
  unfold rdOf at e
  rcases hf : s.cur.fresh p with _ | k
  · rw [hf] at e
    simp only at e
    split at e
    · injection e with e
      rw [← e]
      have := Frm.held_le (d.page p)
      omega
    · cases e
  · rw [hf] at e
    injection e with e
    subst e
    have := h.cur.len p k hf
    omega
theorem sto0_goodN (n : Nat) (h4 : 4 ≤ n) (h5 : n ≤ 4096) : SGood (sto0 n) := by
  have h := opened_good (newD n) h4 h5
  rwa [opened_new] at h
theorem quiet_new (n : Nat) (h4 : 4 ≤ n) (h5 : n ≤ 4096) : Quiet (sto0 n) (newD n) :=
  { liv := ⟨rfl, rfl⟩, wait := fun _ => rfl, sd := rfl, nn := rfl, good := sto0_goodN n h4 h5
    lkK := by show (lkTo (newD n) n 2).kept = _; rw [lk_new]; rfl
    lkF := by show (lkTo (newD n) n 2).force = _; rw [lk_new]; rfl
    lkS := by show (lkTo (newD n) n 2).stamp = _; rw [lk_new]; rfl
    whole := fun p hp => by cases hp }
/-- What Commit leaves then. -/
theorem Quiet.commit {s : Sto} {d : Dsk} (h : Quiet s d) (hs : s.stamp < 18446744073709551000) :
    ansC s d = 0 ∧ Quiet (stoC s d) (diskC s d) ∧ (stoC s d).cur = Vw.base s.cur.now ∧ (stoC s d).kept = s.cur.now ∧ (stoC s d).us = [] ∧ (stoC s d).stamp ≤ s.stamp + 1 ∧ (stoC s d).n = s.n ∧ ∀ p, s.cur.now.has p = true → rdOf (stoC s d) (diskC s d) p = rdOf s d p := by
  by_cases hc : s.changed = true
  · obtain ⟨e1, e2, e3⟩ := com_live h.liv h.sd h.good h.nn (by omega) hc
    have hw := h.liv.write h.good h.nn (by omega)
    have hn4 := h.good.n4
    have hn5 := h.good.n5
    have hhd : s.head < 2 := by unfold Sto.head; omega
    have hpg : ∀ p, s.cur.now.has p = true → (writeD s d).2.page p = match s.cur.fresh p with | some l => Frm.frame p 2 (s.stamp + 1) l | none => d.page p := fun p hp => by
      rw [hw.2.2.2 p]
      have h2 := (h.good.cur.has p hp).1
      rw [if_neg (by omega)]
      rcases hf : s.cur.fresh p with _ | l
      · rfl
      · show (if true = true then _ else _) = _
        rw [if_pos rfl]; unfold pageF; rw [hf]; rfl
    have hlp : ∀ p l, s.cur.fresh p = some l → l.length ≤ 4011 := h.good.cur.len
    have hwh : ∀ p, s.cur.now.has p = true → Frm.whole ((writeD s d).2.page p) p 2 := fun p hp => by
      rw [hpg p hp]
      have h2 := h.good.cur.has p hp
      rcases hf : s.cur.fresh p with _ | l
      · refine h.whole p ?_
        rcases hk : s.kept.has p with _ | _
        · exact absurd hf ((h.good.cur.fresh p).2 ⟨hp, hk⟩)
        · rfl
      · exact (Frm.whole_frame p 2 (s.stamp + 1) p 2 l (hlp p l hf) (by omega) (by omega) (by omega) (by omega) (by omega)).2 ⟨rfl, rfl⟩
    have hlk := lk_commit (d := d) (d' := (writeD s d).2) (n := d.n) (S := s.stamp) (h := s.head) (t := s.cur.now) h.lkS hhd (by rw [hw.2.2.2, if_pos rfl]; unfold headF; rw [h.nn]) (by
        rw [hw.2.2.2, if_neg (by omega)]
        have : s.cur.fresh (1 - s.head) = none := by
          rcases hf : s.cur.fresh (1 - s.head) with _ | l
          · rfl
          · have := (h.good.cur.fresh (1 - s.head)).1 (by rw [hf]; simp)
            have := (h.good.cur.has _ this.1).1
            omega
        rw [this]; rfl) (by rw [← h.nn]; exact h.good.cur.sta) (by rw [← h.nn]; exact hn4) (by rw [← h.nn]; exact hn5) (by omega)
    rw [e1, e2, e3]
    have hnd : (writeD s d).2.n = d.n := writeD_n s d
    refine ⟨rfl, ⟨hw.2.1, hw.2.2.1, h.sd, h.nn.trans hnd.symm, begin_good (wrote_good h.good (by omega)) _ h.good.cur.sta, ?_, ?_, ?_, hwh⟩, rfl, rfl, rfl, Nat.le_refl _, rfl, fun p hp => ?_⟩
    · rw [hnd, hlk]; rfl
    · rw [hnd, hlk]; rfl
    · rw [hnd, hlk]; rfl
    · unfold rdOf
      show (if Frm.whole ((writeD s d).2.page p) p 2 then some (Frm.held ((writeD s d).2.page p)) else none) = _
      rw [if_pos (hwh p hp), hpg p hp]
      rcases hf : s.cur.fresh p with _ | l
      · have hk : s.kept.has p = true := by
          rcases hk : s.kept.has p with _ | _
          · exact absurd hf ((h.good.cur.fresh p).2 ⟨hp, hk⟩)
          · rfl
        show some (Frm.held (d.page p)) = if Frm.whole (d.page p) p 2 then some (Frm.held (d.page p)) else none
        rw [if_pos (h.whole p hk)]
      · show some (Frm.held (Frm.frame p 2 (s.stamp + 1) l)) = some l
        rw [Frm.held_frame _ _ _ _ (hlp p l hf)]
  · have hc' : s.changed = false := by simpa using hc
    have hcur := h.good.same hc'
    have e : comA s d = 0 ∧ comD s d = d ∧ comS s d = s.begin s.cur.now := by
      unfold comA comD comS
      rw [if_neg hc, if_neg hc, if_neg hc]; exact ⟨rfl, rfl, rfl⟩
    have e1 : ansC s d = 0 := by unfold ansC; rw [h.gone, e.1]; rfl
    have e2 : stoC s d = s.begin s.cur.now := by unfold stoC; rw [h.gone, e.1, e.2.2]; rfl
    have e3 : diskC s d = d := by unfold diskC; rw [h.gone, e.2.1]; rfl
    rw [e1, e2, e3]
    have ek : s.cur.now = s.kept := by rw [hcur]; rfl
    refine ⟨rfl, h.act ⟨rfl, by rw [ek]; rfl, rfl, rfl, rfl⟩ (begin_good h.good _ h.good.cur.sta), rfl, rfl, rfl, Nat.le_succ _, rfl, fun p hp => ?_⟩
    unfold rdOf
    show (if Frm.whole (d.page p) p 2 then some (Frm.held (d.page p)) else none) = _
    rw [hcur]; rfl
end Go.Proofs.YtnpebfolmdbipaaGreatDoor.Sk

namespace Go.Proofs.YtnpebfolmdbipaaGreatDoor.Sk
set_option maxRecDepth 8000
set_option linter.unusedVariables false
set_option linter.unusedSimpArgs false
open Go.RowKit Mem Go.ChangeMaps
open Dk (cod elem cod_inj elem_mk elem_inv key key_inj wf_key keyed3 MapIs Fr ptr hmf cell_alloc cell_alloc_new zero42 IsD Dsk Lay drewN_cell Kp ref_zero newD newY)
/-! ### The power comes again -/
theorem lkStep_congr {d d' : Dsk} {a : Nat} (h : d'.page a = d.page a) (n : Nat) (x : Lk) : lkStep d' n a x = lkStep d n a x := by
  unfold lkStep takes
  rw [h]
theorem lk_congr {d d' : Dsk} (h : ∀ a, a < 2 → d'.page a = d.page a) (n : Nat) : lkTo d' n 2 = lkTo d n 2 := by
  show lkStep d' n 1 (lkStep d' n 0 lk0) = lkStep d n 1 (lkStep d n 0 lk0)
  rw [lkStep_congr (h 0 (by omega)), lkStep_congr (h 1 (by omega))]
theorem restart_page (d : Dsk) (fs : List Int) (j : Nat) : (d.restart fs).page j = (d.restart fs).last j := rfl
theorem restart_n (d : Dsk) (fs : List Int) : (d.restart fs).n = d.n := (Dk.tornK_wait d fs _).2.2.1
theorem restart_liv (d : Dsk) (fs : List Int) : Liv (d.restart fs) := ⟨rfl, rfl⟩
theorem restart_wait (d : Dsk) (fs : List Int) (j : Nat) : (d.restart fs).wait j = none := rfl
/-- Where nothing waits, all is as it was. -/
theorem restart_still {d : Dsk} (hg : Dk.Good d) (hw : ∀ j, d.wait j = none) (fs : List Int) (j : Nat) : (d.restart fs).page j = d.page j := by
  have ho : d.order = [] := by
    rcases hd : d.order with _ | ⟨i, l⟩
    · rfl
    · have := (hg.mem i).1 (by rw [hd]; simp)
      exact absurd (hw i) this.2
  rw [restart_page, Dk.restart_last d fs hg j, ho]
  show d.last j = (d.wait j).getD (d.last j)
  rw [hw j]; rfl
theorem Quiet.reopen {s : Sto} {d d' : Dsk} (h : Quiet s d) (hp : ∀ j, d'.page j = d.page j) (hl : Liv d') (hw : ∀ j, d'.wait j = none) (hn : d'.n = d.n) :
    Quiet (opened d') d' ∧ (opened d').kept = s.kept ∧ (opened d').cur = Vw.base s.kept ∧ (opened d').stamp = s.stamp ∧ (opened d').us = [] := by
  have e : lkTo d' d'.n 2 = lkTo d d.n 2 := by rw [hn]; exact lk_congr (fun a _ => hp a) d.n
  have ek : (opened d').kept = s.kept := by show (lkTo d' d'.n 2).kept = _; rw [e]; exact h.lkK
  refine ⟨{ liv := hl, wait := hw, sd := rfl, nn := rfl, good := opened_good d' (by rw [hn, ← h.nn]; exact h.good.n4) (by rw [hn, ← h.nn]; exact h.good.n5), lkK := rfl, lkF := rfl, lkS := rfl, whole := fun p hp2 => ?_ }, ek, ?_, ?_, rfl⟩
  · rw [hp p]; exact h.whole p (by rw [← ek]; exact hp2)
  · show Vw.base (lkTo d' d'.n 2).kept = _; rw [e, h.lkK]
  · show (lkTo d' d'.n 2).stamp = _; rw [e]; exact h.lkS
/-- What a store of no change holds. -/
theorem shotV_base {s : Sto} {t : Sta} (h : s.cur = Vw.base t) (d : Dsk) (n : Nat) : shotV s d n = fun p => if p < n ∧ t.has p = true then (if Frm.whole (d.page p) p 2 then some (Frm.held (d.page p)) else none) else none := by
  funext p; unfold shotV rdOf; rw [h]; rfl
end Go.Proofs.YtnpebfolmdbipaaGreatDoor.Sk

