import Derived.Test.YtcjokkjepgfinaaGreatDoorQSA
import Derived.Deep.RegionHeld3
import Derived.Test.YtcjokkjepgfinaaGreatDoorQLy
set_option linter.unusedVariables false
set_option linter.unusedSimpArgs false
namespace Go.Proofs.YtcjokkjepgfinaaGreatDoor.Sk
set_option maxRecDepth 8000
open Go.RowKit Mem Go.ChangeMaps
open Dk (cod elem cod_inj elem_mk elem_inv key key_inj wf_key keyed3 MapIs Fr ptr hmf cell_alloc cell_alloc_new zero42 IsD Dsk Lay drewN_cell)
def Sto.spareTo (s : Sto) : Nat → Nat
  | 0 => 0
  | k + 1 => if s.spareTo k = 0 ∧ 2 ≤ k ∧ s.free k = true then k else s.spareTo k
def Sto.spare (s : Sto) : Nat := s.spareTo s.n
theorem spareTo_is (s : Sto) (k : Nat) : (s.spareTo k = 0 ∧ ∀ q, 2 ≤ q → q < k → s.free q = false) ∨ (2 ≤ s.spareTo k ∧ s.spareTo k < k ∧ s.free (s.spareTo k) = true ∧ ∀ q, 2 ≤ q → q < s.spareTo k → s.free q = false) := by
  induction k with
  | zero => exact .inl ⟨rfl, fun q h1 h2 => by omega⟩
  | succ k ih =>
    unfold Sto.spareTo
    rcases ih with ⟨h1, h2⟩ | ⟨h1, h2, h3, h4⟩
    · by_cases hk : 2 ≤ k ∧ s.free k = true
      · rw [if_pos ⟨h1, hk⟩]
        exact .inr ⟨hk.1, by omega, hk.2, h2⟩
      · rw [if_neg (fun e => hk e.2)]
        refine .inl ⟨h1, fun q q1 q2 => ?_⟩
        by_cases e : q = k
        · subst e
          rcases hf : s.free q with _ | _
          · rfl
          · exact absurd ⟨q1, hf⟩ hk
        · exact h2 q q1 (by omega)
    · rw [if_neg (fun e => by omega)]
      exact .inr ⟨h1, by omega, h3, h4⟩
theorem spare_is (s : Sto) : IsSpare s s.spare := spareTo_is s s.n
section
variable {w w' : World} {sb db : Nat} {y : SLay} {s : Sto} {yd : Dk.Lay} {d : Dk.Dsk}
theorem spare_one (h : IsS w sb y db s) (hn : s.n ≤ 4096) : Calls Tryz.prog 158 #[pt sb, .int .i64 (s.n : Int)] w fun e w' => e = .returned (.int .i64 (s.spare : Int)) ∧ w' = w := by
  refine (spare_any h hn).mono ?_
  rintro e w' ⟨⟨p, hp, rfl⟩, rfl⟩
  exact ⟨by rw [hp.one (spare_is s)], rfl⟩
theorem enter47 (args : Array Value) (W : World) : (callFunc 157 args).run Tryz.prog W = .ok (.enter 157 args) W := by kernel_rfl
theorem IsS.poke (h : IsS w sb y db s) {q : Addr} (hq : ¬ y.foot q.block) (v : Value) : IsS (w.setCell q v) sb y db s :=
  h.keep (by simp [World.setCell]) fun k hk => Below.heap_setCell _ _ _ _ (fun e => hq (e ▸ hk))
theorem Ks.poke {a : World} {x : SLay} (h : Ks a x w y) {q : Addr} (hq : a.heap.size ≤ q.block) (hx : ∀ k, x.foot k → k < a.heap.size) (v : Value) : Ks a x (w.setCell q v) y :=
  ⟨⟨h.kf.fr.trans (Fr.setCell (F := fun k => k = q.block) w q (fun _ => rfl) v) fun b hb e => by omega, h.kf.foot⟩,
   fun k hk => ⟨(Below.heap_setCell _ _ _ _ (fun e => by have := hx k (by simp [SLay.foot, hk]); omega)).trans (h.cs k hk).1, (h.cs k hk).2⟩⟩
theorem take1_long (h : IsS w sb y db s) (p q r : Addr) (A : Option Addr) (n c : Nat) (hp : w.cell? p = some (.slice A n c)) (hn : 4011 < n) :
    Calls Tryz.prog 157 #[.pointer (some p), .pointer (some q), .pointer (some r)] w fun e w' => ∃ t, e = .returned (.int .i64 t) ∧ t = 2 ∧ w' = w := by
  have hn' : (4011 : Int) < (n : Int) := by omega
  clear h
  go_enter Tryz.func157, Tryz.ntmps157
  go_wp2
  go_ret
  exact ⟨_, rfl, rfl, rfl⟩
set_option maxHeartbeats 1000000 in
theorem take1_full {w0 : World} (h : IsS w sb y db s) (hd : IsD w db yd d) (hnd : s.n = d.n) (h5 : s.n ≤ 4096) (K : Ks w0 y w y) (hx : ∀ k, y.foot k → k < w0.heap.size) (p q r : Addr) (A : Option Addr) (n c : Nat) (u : Value) (hp : w.cell? p = some (.slice A n c)) (hq : w.cell? q = some (pt sb)) (hr : w.cell? r = some u) (fr : w.frozen? r = false) (hr0 : w0.heap.size ≤ r.block) (hn : n ≤ 4011) (hs : s.spare = 0) :
    Calls Tryz.prog 157 #[.pointer (some p), .pointer (some q), .pointer (some r)] w fun e w' => ∃ t, e = .returned (.int .i64 t) ∧ t = 3 ∧ IsS w' sb y db s ∧ Ks w0 y w' y ∧ w'.cell? r = some (.int .i64 0) := by
  have hn' : ¬ (4011 : Int) < (n : Int) := by omega
  have hc := h.cdisk
  have b1 := Dk.size_any (w := w.drew) hd.drew
  rw [← hnd] at b1
  have b2 := spare_one h.drew h5
  rw [hs] at b2
  have hI := Lib.hid (h.poke (q := r) (fun e => by have := hx _ e; omega) (.int .i64 0)).drew
  have hK := Lib.hid (K.poke hr0 hx (.int .i64 0)).drew
  have c9 : (w.setCell r (.int .i64 0)).cell? r = some (.int .i64 0) := World.cell?_setCell_same _ _ _ hr
  clear h hd K hx hnd hs
  go_enter Tryz.func157, Tryz.ntmps157
  go_wp2
  go_still_tail 9, (by kernel_rfl)
  still_call b1
  repeat still_step
  still_call b2
  repeat still_step
  refine wpStill_nil ?_
  change wpList _ _ _ _ _ w.drew
  go_wp2
  go_ret
  exact ⟨_, rfl, rfl, hI.out, hK.out, c9⟩
theorem IsS.adoptV {w0 : World} (h : IsS w sb y db s) (K : Ks w0 y w y) (hs : w0.heap.size ≤ w.heap.size) (hb : Below w.heap.size w w') {v : Value} {l : List UInt8} (ho : Mem.Own 5 w' w.heap.size v l) : ∃ y', IsS w' sb y' db s ∧ Ks w0 y w' y' ∧ SlAt w' y'.role v l ∧ y'.m = y.m ∧ ∀ k, k < w.heap.size → y'.foot k → y.foot k := by
  have hI := h.below hb
  have hK := K.trans (Ks.ofBelow h hb)
  rcases hk : v.ownBlock with _ | k
  · exact ⟨y, hI, hK, ⟨Own.mono ho (Nat.zero_le _), fun k e => by rw [hk] at e; cases e⟩, rfl, fun _ _ e => e⟩
  · have hl := World.ownsRow.lt ho k hk
    have hn : y.role k = none := h.not_foot hl.1
    exact ⟨y.adopt k, hI.adopt hl.2 hn, hK.adopt y (by omega) hn, ⟨Own.mono ho (Nat.zero_le _), fun j e => by rw [hk] at e; injection e with e; subst e; exact adopt_const _ _⟩, rfl, fun j hj e => ((adopt_foot y k j).1 e).elim id (fun e2 => by omega)⟩
theorem Ks.cell {a : World} {x : SLay} (h : Ks a x w y) {q : Addr} (hq : ¬ x.foot q.block) {v : Value} (hv : a.cell? q = some v) : w.cell? q = some v :=
  (World.cell?_of_block (w := a) (h.kf.fr.block _ (Dk.lt_of_cell hv) hq)).trans hv
set_option maxHeartbeats 1000000 in
theorem take1_ok {w0 : World} (h : IsS w sb y db s) (hd : IsD w db yd d) (hnd : s.n = d.n) (h5 : s.n ≤ 4096) (K : Ks w0 y w y) (hx : ∀ k, y.foot k → k < w0.heap.size) (p q r : Addr) (A : Option Addr) (n c : Nat) (l : List UInt8) (u : Value) (hp : w.cell? p = some (.slice A n c)) (hq : w.cell? q = some (pt sb)) (hr : w.cell? r = some u) (fr : w.frozen? r = false) (hr0 : w0.heap.size ≤ r.block) (hp0 : w0.heap.size ≤ p.block) (hq0 : w0.heap.size ≤ q.block) (hpr : p ≠ r) (hqr : q ≠ r) (hn : n ≤ 4011) (hs : s.spare ≠ 0)
    (hrd : Rd w w0.heap.size A c l) (hl : l.length = n) (hm : y.m < 100000000) :
    Calls Tryz.prog 157 #[.pointer (some p), .pointer (some q), .pointer (some r)] w fun e w' => ∃ t, e = .returned (.int .i64 t) ∧ t = 0 ∧ ∃ y', IsS w' sb y' db (s.take s.spare l) ∧ Ks w0 y w' y' ∧ y'.m ≤ y.m + 2 ∧ w'.cell? r = some (.int .i64 (s.spare : Int)) := by
  have hn' : ¬ (4011 : Int) < (n : Int) := by omega
  have hc := h.cdisk
  have b1 := Dk.size_any (w := w.drew) hd.drew
  rw [← hnd] at b1
  have b2 := spare_one h.drew h5
  have hws : w0.heap.size ≤ w.heap.size := K.kf.fr.size
  have hlt : s.spare < 4096 := by
    rcases spare_is s with ⟨h1, _⟩ | ⟨_, h2, _⟩
    · exact absurd h1 hs
    · omega
  have hs' : ((s.spare : Int) == 0) = false := by simp; omega
  have hI := Lib.hid (h.poke (q := r) (fun e => by have := hx _ e; omega) (.int .i64 (s.spare : Int))).drew
  have hK := Lib.hid (K.poke hr0 hx (.int .i64 (s.spare : Int))).drew
  have c9 : (w.setCell r (.int .i64 (s.spare : Int))).drew.cell? r = some (.int .i64 (s.spare : Int)) := World.cell?_setCell_same _ _ _ hr
  have c8 : (w.setCell r (.int .i64 (s.spare : Int))).drew.cell? p = some (.slice A n c) := (World.cell?_setCell_other _ _ _ _ (fun e => hpr e.symm)).trans hp
  have c7 : (w.setCell r (.int .i64 (s.spare : Int))).drew.cell? q = some (pt sb) := (World.cell?_setCell_other _ _ _ _ (fun e => hqr e.symm)).trans hq
  have hR := Lib.hid (hrd.keep (w' := (w.setCell r (.int .i64 (s.spare : Int))).drew) fun a ha => World.cell?_setCell_other _ _ _ _ (fun e => by rw [e] at hr0; omega))
  obtain ⟨W, hW⟩ : ∃ W, W = (w.setCell r (.int .i64 (s.spare : Int))).drew := ⟨_, rfl⟩
  rw [← hW] at hI hK c9 c8 c7 hR
  have HW := Lib.hid hW
  have HX := Lib.hid hx
  generalize s.spare = sp at *
  clear h hd K hx hnd hs hrd hW
  go_enter Tryz.func157, Tryz.ntmps157
  go_wp2
  go_still_tail 9, (by kernel_rfl)
  still_call b1
  repeat still_step
  still_call b2
  repeat still_step
  refine wpStill_nil ?_
  change wpList _ _ _ _ _ w.drew
  go_wp2
  rw [← HW.out]
  clear b1 b2 hp hq hr fr hc
  go_wp2
  have e1 : W.drew.cell? p = some (.slice A n c) := c8
  have e2 : W.drew.cell? q = some (pt sb) := c7
  have e3 : W.drew.cell? r = some (.int .i64 (sp : Int)) := c9
  have HE := Lib.hid (And.intro e1 (And.intro e2 e3))
  have hws2 : w0.heap.size ≤ W.drew.heap.size := by rw [HW.out]; simpa [World.setCell] using hws
  have hI2 := Lib.hid hI.out.drew
  have hK2 := Lib.hid (Ks.drew hK.out)
  have HF := Lib.hid (show ∀ k, w0.heap.size ≤ k → ¬ y.foot k from fun k hk e => by have := HX.out k e; omega)
  have hR2 := Lib.hid (show Rd W.drew W.drew.heap.size A c l from Rd.more (hR.out.keep fun a _ => rfl) hws2)
  clear e1 e2 e3 c7 c8 c9
  go_region_held3 (fun w' => w'.cell? p = some (.slice A n c) ∧ w'.cell? q = some (pt sb) ∧ w'.cell? r = some (.int .i64 (sp : Int)))
    (first | exact HE.out | exact P4.out | exact P5.out)
    (first
      | (go_at_call 159; refine (ctake_any H4.out sp hlt v4 l S4.out (by omega)).mono ?_; rintro e w5 ⟨rfl, y5, h5', k5, m5⟩; have H5 := Lib.hid h5'; have K5 := Lib.hid (K4.out.trans k5); have P5 := Lib.hid (show w5.cell? p = some (.slice A n c) ∧ w5.cell? q = some (pt sb) ∧ w5.cell? r = some (.int .i64 (sp : Int)) from ⟨k5.cell (F4.out p.block hp0 (Dk.lt_of_cell HE.out.1)) P4.out.1, k5.cell (F4.out q.block hq0 (Dk.lt_of_cell HE.out.2.1)) P4.out.2.1, k5.cell (F4.out r.block hr0 (Dk.lt_of_cell HE.out.2.2)) P4.out.2.2⟩); clear h5' k5)
      | (go_at_call 38; refine (clone_any A c n l _ hR2.out hl (by omega)).mono ?_; rintro e w4 ⟨v4, rfl, ho, hb⟩; obtain ⟨y4, h4, k4, s4, m4, f4⟩ := hI2.out.adoptV hK2.out hws2 hb ho; have H4 := Lib.hid h4; have K4 := Lib.hid k4; have S4 := Lib.hid s4; have P4 := Lib.hid (show w4.cell? p = some (.slice A n c) ∧ w4.cell? q = some (pt sb) ∧ w4.cell? r = some (.int .i64 (sp : Int)) from ⟨(hb.cell (Dk.lt_of_cell HE.out.1)).trans HE.out.1, (hb.cell (Dk.lt_of_cell HE.out.2.1)).trans HE.out.2.1, (hb.cell (Dk.lt_of_cell HE.out.2.2)).trans HE.out.2.2⟩); have F4 := Lib.hid (show ∀ k, w0.heap.size ≤ k → k < W.drew.heap.size → ¬ y4.foot k from fun k h1 h2 e => HF.out k h1 (f4 k h2 e)); clear h4 k4 s4 ho hb f4))
  go_wp2
  go_ret
  exact ⟨_, rfl, rfl, y5, H5.out, K5.out, by omega, P5.out.2.2⟩
def ansT (s : Sto) (d : Dsk) (l : List UInt8) : Int := if gone s d then 9 else if 4011 < l.length then 2 else if s.spare = 0 then 3 else 0
def doT (s : Sto) (d : Dsk) (l : List UInt8) : Sto := if ansT s d l = 0 then s.take s.spare l else s
def numT (s : Sto) (d : Dsk) (l : List UInt8) : Nat := if ansT s d l = 0 then s.spare else 0
set_option maxHeartbeats 1000000 in
theorem Take_any (h : IsS w sb y db s) (hd : IsD w db yd d) (hnd : s.n = d.n) (h5 : s.n ≤ 4096) (A : Option Addr) (c n : Nat) (l : List UInt8) (hr : Rd w w.heap.size A c l) (hl : l.length = n) (hm : y.m < 100000000) :
    Calls Tryz.prog 127 #[pt sb, .slice A n c] w fun e w' => e = .returned (.tuple #[.int .i64 (numT s d l : Int), .int .i64 (ansT s d l)]) ∧ ∃ y', IsS w' sb y' db (doT s d l) ∧ Ks w y w' y' ∧ y'.m ≤ y.m + 2 := by
  obtain ⟨W, hW⟩ : ∃ W, W = ((w.alloc (.cells #[pt sb] 23)).alloc (.cells #[.slice A n c] 32)).alloc (.cells #[.int .i64 0] 3) := ⟨_, rfl⟩
  have hx : Bx3 w W (pt sb) (.slice A n c) (.int .i64 0) := hW ▸ bx3 w _ _ _ _ _ _
  have hI := h.below hx.bel
  have hD := hd.below hx.bel
  have hR := hr.below hx.bel
  have HW := Lib.hid hW
  have K0 := Ks.ofBelow h hx.bel
  have hF : ∀ k, y.foot k → k < w.heap.size := h.foot
  have hmk := hmf
  have key : Calls Tryz.prog 44 #[pt sb, .func (.func 157) #[] #[.pointer (some ⟨w.heap.size + 1, 0, none⟩), .pointer (some ⟨w.heap.size, 0, none⟩), .pointer (some ⟨w.heap.size + 2, 0, none⟩)]] W fun e w' => e = .returned (.int .i64 (ansT s d l)) ∧ w'.cell? ⟨w.heap.size + 2, 0, none⟩ = some (.int .i64 (numT s d l : Int)) ∧ ∃ y', IsS w' sb y' db (doT s d l) ∧ Ks w y w' y' ∧ y'.m ≤ y.m + 2 := by
    unfold doT numT
    by_cases hg : gone s d = true
    · have e0 : ansT s d l = 9 := if_pos hg
      rw [e0, if_neg (by omega), if_neg (by omega)]
      refine (ask_gone hI hD 157 _ (enter47 _) hg).mono ?_
      rintro e w' ⟨rfl, rfl⟩
      exact ⟨rfl, hx.c3, y, hI, K0, by omega⟩
    · have hg' : gone s d = false := by simpa using hg
      by_cases hlong : 4011 < l.length
      · have e0 : ansT s d l = 2 := by unfold ansT; rw [if_neg hg, if_pos hlong]
        rw [e0, if_neg (by omega), if_neg (by omega)]
        refine (ask_yes hI hD 157 _ (enter47 _) hg' (take1_long hI _ _ _ A n c hx.c2 (by omega))).mono ?_
        rintro e w' ⟨t, rfl, rfl, rfl⟩
        exact ⟨rfl, hx.c3, y, hI, K0, by omega⟩
      · by_cases hs : s.spare = 0
        · have e0 : ansT s d l = 3 := by unfold ansT; rw [if_neg hg, if_neg hlong, if_pos hs]
          rw [e0, if_neg (by omega), if_neg (by omega)]
          refine (ask_yes hI hD 157 _ (enter47 _) hg' (take1_full hI hD hnd h5 K0 hF _ _ _ A n c _ hx.c2 hx.c1 hx.c3 hx.f3 (by simp) (by omega) hs)).mono ?_
          rintro e w' ⟨t, rfl, rfl, h1, h2, h3⟩
          exact ⟨rfl, h3, y, h1, h2, by omega⟩
        · have e0 : ansT s d l = 0 := by unfold ansT; rw [if_neg hg, if_neg hlong, if_neg hs]
          rw [e0, if_pos rfl, if_pos rfl]
          refine (ask_yes hI hD 157 _ (enter47 _) hg' (take1_ok hI hD hnd h5 K0 hF _ _ _ A n c l _ hx.c2 hx.c1 hx.c3 hx.f3 (by simp) (by simp) (Nat.le_refl _) (by simp) (by simp) (by omega) hs hR hl hm)).mono ?_
          rintro e w' ⟨t, rfl, rfl, y', h1, h2, h3, h4⟩
          exact ⟨rfl, h4, y', h1, h2, h3⟩
  have KEY := Lib.hid key
  clear hx hW hI hD h hd key K0 hF hR hr
  go_enter Tryz.func127, Tryz.ntmps127
  go_wp2_with (go_at_call 44; rw [← HW.out]; refine KEY.out.mono ?_; rintro e w1 ⟨rfl, c1, y1, h1, k1, m1⟩; have H1 := Lib.hid h1; have K1 := Lib.hid k1; clear h1 k1)
  go_ret2
  exact ⟨rfl, y1, H1.out, K1.out, m1⟩
end
end Go.Proofs.YtcjokkjepgfinaaGreatDoor.Sk
namespace Go.Proofs.YtcjokkjepgfinaaGreatDoor.Sk
set_option maxRecDepth 8000
open Go.RowKit Mem Go.ChangeMaps
open Dk (cod elem cod_inj elem_mk elem_inv key key_inj wf_key keyed3 MapIs Fr ptr hmf cell_alloc cell_alloc_new zero42 IsD Dsk Lay drewN_cell)
open Fm (gets get_yes get_no tab_low)
section
variable {w w' : World} {sb db : Nat} {y : SLay} {s : Sto} {yd : Dk.Lay} {d : Dk.Dsk}
theorem page_len (hd : IsD w db yd d) (p : Nat) (hp : p < d.n) : (d.page p).length = 4096 := by
  unfold Dk.Dsk.page
  rcases hw : d.wait p with _ | l
  · exact hd.lastLen p hp
  · exact hd.waitLen p l hp hw
def rdOf (s : Sto) (d : Dsk) (p : Nat) : Option (List UInt8) := match s.cur.fresh p with
  | some l => some l
  | none => if Frm.whole (d.page p) p 2 then some (Frm.held (d.page p)) else none
set_option maxHeartbeats 1000000 in
theorem held_any (h : IsS w sb y db s) (hd : IsD w db yd d) (hT : Tab w) (p : Nat) (hp : p < d.n) (hp2 : p < 4096) (hg : d.dead = false) (hlen : ∀ l, s.cur.fresh p = some l → l.length ≤ 4011) :
    Calls Tryz.prog 87 #[pt sb, .int .i64 (p : Int)] w fun e w' => ∃ v r, e = .returned (.tuple #[v, .int .i64 r]) ∧ (∀ l, rdOf s d p = some l → r = 0 ∧ Mem.Own 5 w' w.heap.size v l) ∧ (rdOf s d p = none → r = 10 ∧ v = .slice none 0 0) ∧ Below w.heap.size w w' := by
  have hc := h.cfresh
  have hc2 := h.cdisk
  have hlk := h.map.is.look_ok Tryz.underlying93 (zero42 _) p (by omega)
  have hfo := h.freshOk p hp2
  unfold rdOf
  rcases hf : s.cur.fresh p with _ | l
  · rw [hf] at hfo
    rcases hV : y.V p with _ | v
    · rw [hV] at hlk
      simp only [Option.getD_none, Option.isSome_none] at hlk
      have RD := Lib.hid (Dk.read_ok hd p hg hp)
      have hpl := page_len hd p hp
      have HT := Lib.hid hT
      clear h hd hfo hf hV hT hlen
      by_cases hwh : Frm.whole (d.page p) p 2
      · simp only [if_pos hwh]
        have HG := Lib.hid (show gets (d.page p) (p : Int) 2 from ⟨by omega, by rw [Int.toNat_natCast]; exact hwh⟩)
        have HP := Lib.hid hpl
        clear hwh hpl
        go_enter Tryz.func87, Tryz.ntmps87
        go_wp2_with (first
          | (go_at_call 83; refine (get_yes T1.out R1.out HP.out (by omega) HG.out _ rfl _ rfl).mono ?_; rintro e w2 ⟨v2, rfl, ho2, hb2⟩; have O2 := Lib.hid ho2; have B2 := Lib.hid hb2; clear ho2 hb2)
          | (go_at_call 81; refine RD.out.mono ?_; rintro e w1 ⟨v1, rfl, ho1, hb1⟩; obtain ⟨A1, c1, rfl, hr1, hlt1, hs1⟩ := ho1.form; rw [HP.out]; have R1 := Lib.hid hr1; have B1 := Lib.hid hb1; have T1 := Lib.hid (tab_low HT.out hb1); clear ho1 hr1 hlt1 hs1 hb1))
        go_ret2
        exact ⟨_, _, rfl, fun l hl => ⟨rfl, by injection hl with hl; subst hl; exact Own.mono O2.out B1.out.size⟩, fun e => by (cases e), B1.out.trans (B2.out.mono B1.out.size)⟩
      · simp only [if_neg hwh]
        have HG := Lib.hid (show ¬ gets (d.page p) (p : Int) 2 from fun e => hwh (by have := e.2; rwa [Int.toNat_natCast] at this))
        have HP := Lib.hid hpl
        clear hwh hpl
        go_enter Tryz.func87, Tryz.ntmps87
        go_wp2_with (first
          | (go_at_call 83; refine (get_no T1.out R1.out HP.out (by omega) HG.out).mono ?_; rintro e w2 ⟨rfl, hb2⟩; have B2 := Lib.hid hb2; clear hb2)
          | (go_at_call 81; refine RD.out.mono ?_; rintro e w1 ⟨v1, rfl, ho1, hb1⟩; obtain ⟨A1, c1, rfl, hr1, hlt1, hs1⟩ := ho1.form; rw [HP.out]; have R1 := Lib.hid hr1; have B1 := Lib.hid hb1; have T1 := Lib.hid (tab_low HT.out hb1); clear ho1 hr1 hlt1 hs1 hb1))
        go_ret2
        exact ⟨_, _, rfl, fun l hl => by (cases hl), fun _ => ⟨rfl, rfl⟩, B1.out.trans (B2.out.mono B1.out.size)⟩
    · rw [hV] at hfo; exact hfo.elim
  · rw [hf] at hfo
    rcases hV : y.V p with _ | v
    · rw [hV] at hfo; exact hfo.elim
    · rw [hV] at hfo hlk
      simp only [Option.getD_some, Option.isSome_some] at hlk
      obtain ⟨A1, c1, rfl, hr1, _, _⟩ := hfo.1.form
      have hll : l.length ≤ 140737488355328 ∨ True := .inr trivial
      have R1 := Lib.hid hr1
      have HLL : l.length ≤ 140737488355328 := by
        have := hlen l hf
        omega
      have HLL := Lib.hid HLL
      clear h hd hfo hf hV hT hr1 hll hlen
      go_enter Tryz.func87, Tryz.ntmps87
      go_wp2_with (go_at_call 38; refine (clone_any A1 c1 _ l _ R1.out rfl HLL.out).mono ?_; rintro e w2 ⟨v2, rfl, ho2, hb2⟩; have O2 := Lib.hid ho2; have B2 := Lib.hid hb2; clear ho2 hb2)
      go_ret2
      exact ⟨_, _, rfl, fun l' hl => ⟨rfl, by injection hl with hl; subst hl; exact O2.out⟩, fun e => by (cases e), B2.out⟩
theorem held_slice (h : IsS w sb y db s) (hd : IsD w db yd d) (hT : Tab w) (p : Nat) (hp : p < d.n) (hp2 : p < 4096) (hg : d.dead = false) (hlen : ∀ l, s.cur.fresh p = some l → l.length ≤ 4011) :
    Calls Tryz.prog 87 #[pt sb, .int .i64 (p : Int)] w fun e w' => ∃ A n c r, e = .returned (.tuple #[.slice A n c, .int .i64 r]) ∧ (∀ l, rdOf s d p = some l → r = 0 ∧ Mem.Own 5 w' w.heap.size (.slice A n c) l) ∧ (rdOf s d p = none → r = 10 ∧ Value.slice A n c = .slice none 0 0) ∧ Below w.heap.size w w' := by
  refine (held_any h hd hT p hp hp2 hg hlen).mono ?_
  rintro e w' ⟨v, r, rfl, h1, h2, h3⟩
  rcases hr : rdOf s d p with _ | l
  · obtain ⟨rfl, rfl⟩ := h2 hr
    exact ⟨_, _, _, _, rfl, fun l hl => by (cases hl), fun _ => ⟨rfl, rfl⟩, h3⟩
  · obtain ⟨rfl, ho⟩ := h1 l hr
    obtain ⟨A, c, rfl, _⟩ := ho.form
    exact ⟨_, _, _, _, rfl, fun l' hl => by (injection hl with hl; subst hl; exact ⟨rfl, ho⟩), fun e => by (cases e), h3⟩
theorem enter54 (args : Array Value) (W : World) : (callFunc 85 args).run Tryz.prog W = .ok (.enter 85 args) W := by kernel_rfl
set_option maxHeartbeats 1000000 in
theorem read1_bad (h : IsS w sb y db s) (p q r : Addr) (i : Int) (hp : w.cell? p = some (.int .i64 i)) (hq : w.cell? q = some (pt sb)) (hb : s.cur.now.hasI i = false) :
    Calls Tryz.prog 85 #[.pointer (some q), .pointer (some p), .pointer (some r)] w fun e w' => ∃ t, e = .returned (.int .i64 t) ∧ t = 1 ∧ ∃ n, w' = w.drewN n := by
  have b1 := hasN h i
  rw [hb] at b1
  have B1 := Lib.hid b1
  clear h hb b1
  go_enter Tryz.func85, Tryz.ntmps85
  go_wp2
  go_quiet (first | (go_at_call 86; refine Calls.quiet_of_same (B1.out _)))
  go_wp2
  go_ret
  exact ⟨_, rfl, rfl, _, rfl⟩
set_option maxHeartbeats 1000000 in
theorem read1_ok {w0 : World} (h : IsS w sb y db s) (hd : IsD w db yd d) (hT : Tab w) (hB : Below w0.heap.size w0 w) (p q r : Addr) (i : Nat) (u : Value) (hp : w.cell? p = some (.int .i64 (i : Int))) (hq : w.cell? q = some (pt sb)) (hr : w.cell? r = some u) (fr : w.frozen? r = false) (hr0 : w0.heap.size ≤ r.block) (hb : s.cur.now.hasI i = true) (hi : i < d.n) (hi2 : i < 4096) (hg : d.dead = false) (hlen : ∀ l, s.cur.fresh i = some l → l.length ≤ 4011) (hu : ∃ A n c, u = .slice A n c) :
    Calls Tryz.prog 85 #[.pointer (some q), .pointer (some p), .pointer (some r)] w fun e w' => ∃ t, e = .returned (.int .i64 t) ∧ ∃ v, w'.cell? r = some v ∧ (∀ l, rdOf s d i = some l → t = 0 ∧ Mem.Own 5 w' w0.heap.size v l) ∧ (rdOf s d i = none → t = 10 ∧ v = .slice none 0 0) ∧ Below w0.heap.size w0 w' := by
  have b1 := hasN h (i : Int)
  rw [hb] at b1
  have B1 := Lib.hid b1
  have H := Lib.hid h
  have HD := Lib.hid hd
  have HB := Lib.hid hB
  have HT := Lib.hid hT
  have v1 := fun n => (drewN_cell w n p).trans hp
  have v2 := fun n => (drewN_cell w n q).trans hq
  have v3 := fun n => (drewN_cell w n r).trans hr
  have v4 : ∀ n, (w.drewN n).frozen? r = false := fun n => by
    obtain ⟨b, j, sp⟩ := r
    have : (w.drewN n).heap = w.heap := (World.drewN_alike w n).1
    simp only [World.frozen?] at fr ⊢
    rw [this]; exact fr
  have C := Lib.hid (fun n => held_slice (h.drewN n) (hd.drewN n) (hT.below (below_drewN (Below.refl _ w) n) hT.1) i hi hi2 hg hlen)
  have K0 := Lib.hid (fun n => below_drewN hB n)
  have V3 := Lib.hid v3
  have FR := Lib.hid (show ∀ n W, Below (w.drewN n).heap.size (w.drewN n) W → W.frozen? r = false from fun n W hb => by
    have hlt := Dk.lt_of_cell (v3 n)
    have h4 := v4 n
    obtain ⟨b, j, sp⟩ := r
    simp only [World.frozen?] at h4 ⊢
    rw [hb.block b hlt]; exact h4)
  have V4 := Lib.hid v4
  clear h hd hb b1 hB hT v3 v4 hlen H HD HB HT
  go_enter Tryz.func85, Tryz.ntmps85
  go_wp2
  go_quiet (first | (go_at_call 86; refine Calls.quiet_of_same (B1.out _)))
  have w1' := v1 nq
  have w2' := v2 nq
  clear hp hq hr fr v1 v2
  go_wp2_with (go_at_call 87; refine (C.out nq).mono ?_; rintro e w1 ⟨A2, n2, c2, t, rfl, h1, h2, h3⟩; have H1 := Lib.hid h1; have H2 := Lib.hid h2; have H3 := Lib.hid h3; have v5 := (h3.cell (Dk.lt_of_cell (V3.out nq))).trans (V3.out nq); have v6 : w1.frozen? r = false := FR.out _ _ h3; clear h1 h2 h3)
  go_ret
  have hlt : r.block < (w.drewN nq).heap.size := Dk.lt_of_cell (V3.out nq)
  have hsz : w0.heap.size ≤ (w.drewN nq).heap.size := (K0.out nq).size
  refine ⟨_, rfl, _, World.cell?_setCell_same _ _ _ v5, fun l hl => ⟨(H1.out l hl).1, ?_⟩, H2.out, ((K0.out nq).trans (H3.out.mono hsz)).setCell hr0 _⟩
  have ho := (H1.out l hl).2
  refine Dk.Own.of_block (Own.mono ho hsz) fun k hk => Below.heap_setCell _ _ _ _ (fun e => ?_)
  have := (World.ownsRow.lt ho k hk).1
  omega
def ansRd (s : Sto) (d : Dsk) (i : Int) : Int := if gone s d then 9 else if !s.cur.now.hasI i then 1 else if (rdOf s d i.toNat).isSome then 0 else 10
set_option maxHeartbeats 1000000 in
theorem Read_any (h : IsS w sb y db s) (hd : IsD w db yd d) (hT : Tab w) (hg0 : SGood s) (hnd : s.n = d.n) (i : Int) :
    Calls Tryz.prog 57 #[pt sb, .int .i64 i] w fun e w' => ∃ v, e = .returned (.tuple #[v, .int .i64 (ansRd s d i)]) ∧ (ansRd s d i = 0 → ∃ l, rdOf s d i.toNat = some l ∧ Mem.Own 5 w' w.heap.size v l) ∧ (ansRd s d i ≠ 0 → v = .slice none 0 0) ∧ Below w.heap.size w w' := by
  obtain ⟨W, hW⟩ : ∃ W, W = ((w.alloc (.cells #[pt sb] 23)).alloc (.cells #[.int .i64 i] 3)).alloc (.cells #[.slice none 0 0] 32) := ⟨_, rfl⟩
  have hx : Bx3 w W (pt sb) (.int .i64 i) (.slice none 0 0) := hW ▸ bx3 w _ _ _ _ _ _
  have hI := h.below hx.bel
  have hD := hd.below hx.bel
  have HW := Lib.hid hW
  have hmk := hmf
  have key : Calls Tryz.prog 44 #[pt sb, .func (.func 85) #[] #[.pointer (some ⟨w.heap.size, 0, none⟩), .pointer (some ⟨w.heap.size + 1, 0, none⟩), .pointer (some ⟨w.heap.size + 2, 0, none⟩)]] W fun e w' => e = .returned (.int .i64 (ansRd s d i)) ∧ ∃ A n c, w'.cell? ⟨w.heap.size + 2, 0, none⟩ = some (.slice A n c) ∧ (ansRd s d i = 0 → ∃ l, rdOf s d i.toNat = some l ∧ Mem.Own 5 w' w.heap.size (.slice A n c) l) ∧ (ansRd s d i ≠ 0 → Value.slice A n c = .slice none 0 0) ∧ Below w.heap.size w w' := by
    by_cases hg : gone s d = true
    · have e0 : ansRd s d i = 9 := if_pos hg
      rw [e0]
      refine (ask_gone hI hD 85 _ (enter54 _) hg).mono ?_
      rintro e w' ⟨rfl, rfl⟩
      exact ⟨rfl, _, _, _, hx.c3, fun e => absurd e (by omega), fun _ => rfl, hx.bel⟩
    · have hg' : gone s d = false := by simpa using hg
      by_cases hb : s.cur.now.hasI i = true
      · obtain ⟨k, rfl⟩ := Int.eq_ofNat_of_zero_le (hasI_lt hb).1
        have hk := hasI_lt hb
        rw [Int.toNat_natCast] at hk
        have hkn := (hg0.cur.has k hk.2.2).2
        have hdd : d.dead = false := by simp [gone] at hg'; exact hg'.2
        refine (ask_yes hI hD 85 _ (enter54 _) hg' (read1_ok hI hD (hT.below hx.bel hT.1) hx.bel _ _ _ k _ hx.c2 hx.c1 hx.c3 hx.f3 (by simp) hb (by omega) (by omega) hdd (fun l hl => hg0.cur.len k l hl) ⟨_, _, _, rfl⟩)).mono ?_
        rintro e w' ⟨t, rfl, v, c1, h1, h2, h3⟩
        rcases hr : rdOf s d k with _ | l
        · obtain ⟨rfl, rfl⟩ := h2 hr
          have e0 : ansRd s d (k : Int) = 10 := by unfold ansRd; rw [if_neg hg, hb, Int.toNat_natCast, hr]; rfl
          rw [e0]
          exact ⟨rfl, _, _, _, c1, fun e => absurd e (by omega), fun _ => rfl, h3⟩
        · obtain ⟨rfl, ho⟩ := h1 l hr
          have e0 : ansRd s d (k : Int) = 0 := by unfold ansRd; rw [if_neg hg, hb, Int.toNat_natCast, hr]; rfl
          rw [e0, Int.toNat_natCast]
          obtain ⟨A, c, rfl, _⟩ := ho.form
          exact ⟨rfl, _, _, _, c1, fun _ => ⟨l, hr, ho⟩, fun e => absurd rfl e, h3⟩
      · have hb' : s.cur.now.hasI i = false := by simpa using hb
        have e0 : ansRd s d i = 1 := by unfold ansRd; rw [if_neg hg, hb']; rfl
        rw [e0]
        refine (ask_yes hI hD 85 _ (enter54 _) hg' (read1_bad hI _ _ ⟨w.heap.size + 2, 0, none⟩ i hx.c2 hx.c1 hb')).mono ?_
        rintro e w' ⟨t, rfl, rfl, n, rfl⟩
        exact ⟨rfl, _, _, _, (drewN_cell W n _).trans hx.c3, fun e => absurd e (by omega), fun _ => rfl, below_drewN hx.bel n⟩
  have KEY := Lib.hid key
  clear hx hW hI hD h hd key hT hg0 hnd
  go_enter Tryz.func57, Tryz.ntmps57
  go_wp2_with (go_at_call 44; rw [← HW.out]; refine KEY.out.mono ?_; rintro e w1 ⟨rfl, A, n, c, c1, h1, h2, h3⟩; have H1 := Lib.hid h1; have H2 := Lib.hid h2; have H3 := Lib.hid h3; clear h1 h2 h3)
  go_ret2
  exact ⟨_, rfl, H1.out, H2.out, H3.out⟩
end
end Go.Proofs.YtcjokkjepgfinaaGreatDoor.Sk
namespace Go.Proofs.YtcjokkjepgfinaaGreatDoor.Sk
set_option maxRecDepth 8000
open Go.RowKit Mem Go.ChangeMaps
open Dk (cod elem cod_inj elem_mk elem_inv key key_inj wf_key keyed3 MapIs Fr ptr hmf cell_alloc cell_alloc_new zero42 IsD Dsk Lay drewN_cell)
def bitl (t : Sta) (n : Nat) : List UInt8 := (List.range ((n + 7) / 8)).map fun j => UInt8.ofNat (pk t.has j)
def headOf (t : Sta) (n : Nat) : List UInt8 := be 8 t.root ++ bitl t n
theorem bitl_len (t : Sta) (n : Nat) : (bitl t n).length = (n + 7) / 8 := by simp [bitl]
theorem headOf_len (t : Sta) (n : Nat) : (headOf t n).length = 8 + (n + 7) / 8 := by simp [headOf, length_be, bitl_len]
theorem bitl_at (t : Sta) (n j : Nat) (h : j < (bitl t n).length) : ((bitl t n)[j].toNat : Int) = (pk t.has j : Int) := by
  simp only [bitl, List.getElem_map, List.getElem_range, UInt8.toNat_ofNat']
  have := pk_lt t.has j
  rw [Nat.mod_eq_of_lt (by simpa using this)]
theorem unsig_nat (n : Nat) (h : n < 9223372036854775808) : unsig (n : Int) = n := by
  unfold unsig; rw [IntKind.wrap_u64]; omega
section
variable {w w' : World} {sb db : Nat} {y : SLay} {s : Sto} {yd : Dk.Lay} {d : Dk.Dsk}
theorem are_parts' (w : World) (ps : List Part) (t : TypeId) (hp : ∀ p, p ∈ ps → Rd w w.heap.size p.A p.c p.l) :
    AreParts (w.alloc (.cells (ps.map Part.v).toArray t)) (w.alloc (.cells (ps.map Part.v).toArray t)).heap.size w.heap.size 0 ps := by
  have := are_parts w ps t hp
  rwa [← size_alloc' w (.cells (ps.map Part.v).toArray t)] at this
theorem size_bits (w : World) (n : Nat) (hn : n ≤ 4096) : Calls Tryz.prog 113 #[.int .i64 (n : Int)] w fun e w' => e = .returned (.int .i64 ((n + 7) / 8 : Nat)) ∧ w' = w := by
  go_enter Tryz.func113, Tryz.ntmps113
  go_wp2
  go_ret
  exact ⟨rfl, rfl⟩
theorem rd_bits {b o : Nat} {t : Sta} (h : StaAt w b o t) (n : Nat) (hn : n ≤ 4096) (hb : b < w.heap.size) : Rd w w.heap.size (some ⟨b, o + 1, none⟩) 512 (bitl t n) := by
  refine ⟨by rw [bitl_len]; omega, by unfold maxLen; omega, fun e => (by cases e), fun _ => ⟨b, o + 1, rfl, hb, fun i hi => ?_⟩⟩
  rw [bitl_at t n i hi]
  exact h.byte i (by rw [bitl_len] at hi; omega)
set_option maxHeartbeats 1000000 in
theorem told_any (h : IsS w sb y db s) (hr : s.cur.now.root < 4096) (n : Nat) (hn : n ≤ 4096) :
    Calls Tryz.prog 78 #[pt sb, .int .i64 (n : Int)] w fun e w' => ∃ v, e = .returned v ∧ Mem.Own 5 w' w.heap.size v (headOf s.cur.now n) ∧ Below w.heap.size w w' := by
  have hc := h.croot
  have hlt := h.row.lt
  have hu := unsig_nat s.cur.now.root (by omega)
  have hbits := rd_bits h.drew.now n hn (w := w.drew) hlt
  have hbl := bitl_len s.cur.now n
  have b1 : (0 : Int) ≤ ((bitl s.cur.now n).length : Int) := by omega
  have b2 : ((bitl s.cur.now n).length : Int) ≤ 512 := by omega
  have hsb : ∀ W, Calls Tryz.prog 113 #[.int .i64 (n : Int)] W fun e w' => e = .returned (.int .i64 ((bitl s.cur.now n).length : Int)) ∧ w' = W := fun W => by rw [hbl]; exact size_bits W n hn
  unfold headOf
  generalize bitl s.cur.now n = bl at hbits b1 b2 hsb hbl ⊢
  have HK := Lib.hid hsb
  have HBI := Lib.hid hbits
  have HBL := Lib.hid (show bl.length ≤ 512 by omega)
  have HW := Lib.hid (Int_any none 0 [] (s.cur.now.root : Int) w.drew (Rd.nil _ _) (by simp))
  have HU := Lib.hid hu
  generalize s.cur.now.root = ro at hc HW HU ⊢
  have HLT := Lib.hid hlt
  clear h hu hn hr hbits hsb hbl hlt
  go_enter Tryz.func78, Tryz.ntmps78
  go_wp2
  have c0 : w.drew.cell? ⟨sb, 0, none⟩ = some (.int .i64 (ro : Int)) := hc
  have HC := Lib.hid c0
  clear c0 hc
  go_region_held3 (fun w' => w'.cell? ⟨sb, 0, none⟩ = some (.int .i64 (ro : Int)))
    (first | exact HC.out | exact P4.out | exact P5.out _ | exact P6.out)
    (first
      | (go_at_call 111; go_loud (refine (concat_any w4.heap.size 0 2 [⟨A4, c4, be 8 (unsig (ro : Int))⟩, ⟨some ⟨sb, 1, none⟩, 512, bl⟩] _ PX.out PA.out (by simp) PL.out).mono ?_; rintro e w6 ⟨v6, rfl, ho6, hb6⟩; have O6 := Lib.hid ho6; have B6 := Lib.hid hb6; have P6 := Lib.hid ((hb6.cell (by have := PX.out; have := B4.out.size; have := HLT.out; simp at *; omega)).trans (P5.out _)); clear ho6 hb6))
      | (go_at_call 112; refine HW.out.mono ?_; rintro e w4 ⟨v4, rfl, ho, hb⟩; obtain ⟨A4, c4, rfl, hr4, _, _⟩ := ho.form; have R4 := Lib.hid hr4; have B4 := Lib.hid hb; have P4 := Lib.hid ((hb.cell HLT.out).trans HC.out); have P5 := Lib.hid (fun o => cell_alloc P4.out o); have PA := Lib.hid (are_parts' w4 [⟨A4, c4, be 8 (unsig (ro : Int))⟩, ⟨some ⟨sb, 1, none⟩, 512, bl⟩] 32 (by simp only [List.mem_cons, List.not_mem_nil, or_false]; rintro p (rfl | rfl); exact R4.out; exact Rd.more (HBI.out.below hb) hb.size)); have PX := Lib.hid (show w4.heap.size < (w4.alloc (.cells (([⟨A4, c4, be 8 (unsig (ro : Int))⟩, ⟨some ⟨sb, 1, none⟩, 512, bl⟩] : List Part).map Part.v).toArray 32)).heap.size by simp); have PL := Lib.hid (show (flat [⟨A4, c4, be 8 (unsig (ro : Int))⟩, ⟨some ⟨sb, 1, none⟩, 512, bl⟩]).length ≤ 70368744177664 by have := HBL.out; simp [flat, length_be]; omega); clear ho hb hr4)
      | (go_at_call 113; refine (HK.out _).mono ?_; rintro e w5 ⟨rfl, hw5⟩; obtain rfl := hw5.symm))
  go_wp2
  go_ret
  have hs4 : w.heap.size ≤ w4.heap.size := B4.out.size
  have b45 : Below w.heap.size w w6 := ((Below.refl w.heap.size w).drew.trans B4.out).trans ((below_alloc w4 _ ((size_alloc' w4 _) ▸ B6.out)).mono hs4)
  refine ⟨_, rfl, ?_, b45⟩
  have ho := Own.mono O6.out (b' := w.heap.size) (by simp; omega)
  simpa [flat, HU.out] using ho
end
theorem results_ct {fn : Func} {a : Tmp} {t : TypeId} {u : Tmp} {tmps : Array Value} {w : World} (h : fn.results = #[.cell a t, .tmp u]) (b : Nat) (cs : List Value) (dd : TypeDesc) (ha : tmps.getD a undef = .pointer (some ⟨b, 0, none⟩)) (hc : w.rangeAt b 0 cs)
    (hu : Tryz.prog.underlying t = some dd) (hd : dd.isRow = true) (hi : (Tryz.prog.info? t).map (·.size) = some cs.length) : (results fn tmps).run Tryz.prog w = .ok (.tuple #[.agg cs.toArray, tmps.getD u undef]) w := by
  have hl := run_loadVar_mid w b 0 t cs dd hc hu hd hi
  have ha' : tmps[a]?.getD undef = .pointer (some ⟨b, 0, none⟩) := by rw [← ha]; simp
  simp [results, h, ha', asAddr, hl]
def sta0 : Sta := ⟨0, fun _ => false⟩
theorem zc73 : Tryz.zeroCells92 = (scs sta0).toArray := by kernel_rfl
def StRow (w : World) (b : Nat) : Prop := ∃ t, w.rowIs b 92 513 (stc t)
theorem StRow.there {w : World} {b : Nat} (h : StRow w b) (t : Sta) : w.there b 0 (scs t).toArray.size := by
  obtain ⟨t', h⟩ := h
  exact rowIs_there h 0 _ (by simp [scs_len])
theorem rowIs_sta {w : World} {b : Nat} {t : Sta} (h : w.rowIs b 92 513 (stc t)) : StaAt w b 0 t := fun j hj => by rw [Nat.zero_add]; exact h.cell hj
theorem StRow.set {w : World} {b : Nat} (h : StRow w b) (t : Sta) : (w.setCells b 0 (scs t)).rowIs b 92 513 (stc t) := by
  obtain ⟨t', h⟩ := h
  refine (rowIs_setCells (scs t) 0 _ h).congr fun j hj => ?_
  rw [if_pos (Nat.zero_le _), Nat.sub_zero, scs_at t j hj]; rfl
theorem row_new (w : World) (t : Sta) : (w.alloc (.cells (scs t).toArray 92)).rowIs w.heap.size 92 513 (stc t) := by
  have := World.rowIs_alloc w (scs t).toArray 92 (stc t) (fun i hi => by
    simp only [List.size_toArray, scs_len] at hi
    simpa using scs_at t i hi)
  simpa [scs_len] using this
theorem info73a (t : Sta) : (Tryz.prog.info? 92).map (·.size) = some (scs t).toArray.size := by simpa using info73 t
theorem one_scs' (t : Sta) : (scs t).toArray.all (·.oneCell') = true := all_oneCell_toArray (one_scs t)
def bitsIn (b : List UInt8) (p : Nat) : Bool := decide (p / 8 < b.length - 8) && ((b.getD (8 + p / 8) 0).toNat).testBit (p % 8)
def rootIn (b : List UInt8) : Nat := val (b.take 8)
def mayHead (b : List UInt8) (n : Nat) : Prop := b.length = 8 + (n + 7) / 8 ∧ (∀ p, p < 4096 → bitsIn b p = true → 2 ≤ p ∧ p < n) ∧ rootIn b < 4096 ∧ (rootIn b = 0 ∨ bitsIn b (rootIn b) = true)
def staIn (b : List UInt8) : Sta := ⟨rootIn b, bitsIn b⟩
theorem pk_bitsIn (b : List UInt8) (j : Nat) (h : j < b.length - 8) : pk (bitsIn b) j = (b.getD (8 + j) 0).toNat := by
  symm
  refine pk_of _ _ _ (b.getD (8 + j) 0).toNat_lt fun i hi => ?_
  unfold bitsIn
  rw [show (8 * j + i) / 8 = j by omega, show (8 * j + i) % 8 = i by omega, decide_eq_true h, Bool.true_and]
theorem pk_bitsIn_out (b : List UInt8) (j : Nat) (h : ¬ j < b.length - 8) : pk (bitsIn b) j = 0 := by
  symm
  refine pk_of _ _ _ (by omega) fun i hi => ?_
  unfold bitsIn
  rw [show (8 * j + i) / 8 = j by omega, decide_eq_false h]
  simp
theorem rootIn_head (t : Sta) (n : Nat) (h : t.root < 4096) : rootIn (headOf t n) = t.root := by
  unfold rootIn headOf
  rw [List.take_left' (length_be 8 _), Frm.val_be8 _ (by omega)]
theorem bitsIn_head (t : Sta) (n : Nat) (hb : ∀ p, t.has p = true → p < n) (p : Nat) : bitsIn (headOf t n) p = t.has p := by
  unfold bitsIn
  rw [headOf_len]
  by_cases hp : p / 8 < (n + 7) / 8
  · have e1 : (headOf t n).getD (8 + p / 8) 0 = UInt8.ofNat (pk t.has (p / 8)) := by
      unfold headOf
      rw [List.getD_eq_getElem?_getD, List.getElem?_append_right (by rw [length_be]; omega), length_be, Nat.add_sub_cancel_left]
      simp [bitl, hp]
    rw [e1, UInt8.toNat_ofNat', Nat.mod_eq_of_lt (by have := pk_lt t.has (p / 8); simpa using this), pk_bit _ _ _ (by omega)]
    rw [decide_eq_true (by omega), Bool.true_and]
    congr 1; omega
  · rw [decide_eq_false (by omega), Bool.false_and]
    rcases hh : t.has p with _ | _
    · rfl
    · have := hb p hh; omega
theorem mayHead_head (t : Sta) (n : Nat) (h : StaOk n t) (hn : n ≤ 4096) (h4 : 4 ≤ n) : mayHead (headOf t n) n ∧ staIn (headOf t n) = t := by
  have hr : t.root < 4096 := by
    rcases h.root with e | e
    · omega
    · have := (h.has _ e).2; omega
  have e1 := rootIn_head t n hr
  have e2 : bitsIn (headOf t n) = t.has := funext (bitsIn_head t n (fun p hp => (h.has p hp).2))
  refine ⟨⟨headOf_len t n, fun p _ hp => ?_, by rw [e1]; exact hr, ?_⟩, by unfold staIn; rw [e1, e2]⟩
  · rw [e2] at hp; exact h.has p hp
  · rw [e1, e2]; exact h.root
theorem mayHead_ok {b : List UInt8} {n : Nat} (h : mayHead b n) (hn : n ≤ 4096) : StaOk n (staIn b) :=
  ⟨fun p hp => h.2.1 p (by
    have hp' : bitsIn b p = true := hp
    unfold bitsIn at hp'
    simp only [Bool.and_eq_true, decide_eq_true_eq] at hp'
    have := h.1; omega) hp, h.2.2.2⟩
section
variable {w w' : World} {sb db : Nat} {y : SLay} {s : Sto} {yd : Dk.Lay} {d : Dk.Dsk}
structure HEnd (w w4 : World) (k ro : Nat) (f : Nat → Bool) : Prop where
  c : w4.cell? ⟨k + 1, 0, none⟩ = some (.int .i64 0)
  fz : w4.frozen? ⟨k + 1, 0, none⟩ = false
  rg : (w4.setCell ⟨k + 1, 0, none⟩ (.int .i64 (ro : Int))).rangeAt (k + 1) 0 (scs ⟨ro, f⟩)
  th : (w4.setCell ⟨k + 1, 0, none⟩ (.int .i64 (ro : Int))).there k 0 (scs ⟨ro, f⟩).toArray.size
  row : ((w4.setCell ⟨k + 1, 0, none⟩ (.int .i64 (ro : Int))).setCells k 0 (scs ⟨ro, f⟩)).rowIs k 92 513 (stc ⟨ro, f⟩)
  bel : Below k w ((w4.setCell ⟨k + 1, 0, none⟩ (.int .i64 (ro : Int))).setCells k 0 (scs ⟨ro, f⟩))
  th0 : w4.there k 0 (scs sta0).toArray.size
  row0 : (w4.setCells k 0 (scs sta0)).rowIs k 92 513 (stc sta0)
  bel0 : Below k w (w4.setCells k 0 (scs sta0))
theorem hend {w V w4 : World} {k ro : Nat} {f : Nat → Bool} (hb : Below V.heap.size V w4) (hk : V.heap.size = k + 2) (r6 : V.rowIs (k + 1) 92 513 (stc ⟨0, f⟩)) (r4 : V.rowIs k 92 513 (stc sta0)) (hB : Below k w V) : HEnd w w4 k ro f := by
  have q6 := r6.of_block (hb.block (k + 1) (by omega))
  have q4 := r4.of_block (hb.block k (by omega))
  have h6 : (w4.setCell ⟨k + 1, 0, none⟩ (.int .i64 (ro : Int))).rowIs (k + 1) 92 513 (stc ⟨ro, f⟩) := (q6.set 0 _).congr fun j hj => by
    by_cases e : j = 0
    · subst e; rfl
    · rw [if_neg e]; unfold stc; rw [if_neg e, if_neg e]
  have h4 : (w4.setCell ⟨k + 1, 0, none⟩ (.int .i64 (ro : Int))).rowIs k 92 513 (stc sta0) := q4.of_block (Below.heap_setCell _ _ _ _ (by simp))
  have hB4 : Below k w w4 := hB.trans (hb.mono (by omega))
  have hB5 : Below k w (w4.setCell ⟨k + 1, 0, none⟩ (.int .i64 (ro : Int))) := hB4.setCell (by simp) _
  have hs4 : k ≤ w4.heap.size := by have := hb.size; omega
  exact ⟨q6.cell (by omega), q6.frozen 0, StaAt.range (rowIs_sta h6), StRow.there ⟨_, h4⟩ _, StRow.set ⟨_, h4⟩ _,
    hB5.trans ((setCells_fr k _ 0 _).below (by simpa [World.setCell] using hs4) fun j e => by omega),
    StRow.there ⟨_, q4⟩ _, StRow.set ⟨_, q4⟩ _, hB4.trans ((setCells_fr k _ 0 _).below hs4 fun j e => by omega)⟩
set_option maxRecDepth 200000 in
set_option maxHeartbeats 8000000 in
theorem heard_any (A : Option Addr) (c m : Nat) (b : List UInt8) (hr : Rd w w.heap.size A c b) (hl : b.length = m) (hm : m ≤ 4011) (n : Nat) (hn : n ≤ 4096) (hn1 : 1 ≤ n) :
    Calls Tryz.prog 84 #[.slice A m c, .int .i64 (n : Int)] w fun e w' => ∃ t ok, e = .returned (.tuple #[.agg (scs t).toArray, .bool ok]) ∧ (ok = true → mayHead b n ∧ t = staIn b) ∧ (ok = false → ¬ mayHead b n) ∧ Below w.heap.size w w' := by
  have HS := Lib.hid (size_bits · n hn)
  by_cases h0 : b.length = 8 + (n + 7) / 8
  · have hm8 : 8 ≤ m := by omega
    obtain ⟨g, o, rfl, hg, hcell⟩ := hr.2.2.2 (by omega)
    obtain ⟨W1, hW1⟩ : ∃ W1, W1 = (w.alloc (.cells (scs sta0).toArray 92)).alloc (.cells (scs sta0).toArray 92) := ⟨_, rfl⟩
    have hs1 : W1.heap.size = w.heap.size + 2 := by rw [hW1]; simp
    have hb1 : Below w.heap.size w W1 := hW1 ▸ ((Below.refl w.heap.size w).alloc (Nat.le_refl _) _).alloc (by simp) _
    have hr1 := hr.below hb1
    have r4 : W1.rowIs w.heap.size 92 513 (stc sta0) := hW1 ▸ (row_new w sta0).alloc _
    have g6 : W1.heap[w.heap.size + 1]? = some (.cells (scs sta0).toArray 92 (0, 0)) := by
      have := heap_alloc_new (w.alloc (.cells (scs sta0).toArray 92)) (.cells (scs sta0).toArray 92)
      rw [size_alloc'] at this
      rw [hW1]; exact this
    have hd8 := Rd.drop hr1 8 (by omega)
    have hcp : (Builtin.copy_ #[32, 32] 3 #[.slice (some ⟨w.heap.size + 1, 1, none⟩) 512 512, .slice (some ⟨g, o + 8, none⟩) (m - 8) (c - 8)]).run Tryz.prog W1.drew = .ok (.int .i64 ((m - 8 : Nat) : Int)) (W1.drew.setRow (w.heap.size + 1) ((scs sta0).take 1 ++ (b.drop 8).map bv ++ (scs sta0).drop (1 + (m - 8))).toArray) := by
      have hdl : (b.drop 8).length = m - 8 := by rw [List.length_drop, hl]
      have := run_copy_row (P := Tryz.prog) W1.drew 32 32 3 5 (w.heap.size + 1) 1 512 512 ⟨g, o + 8, none⟩ (m - 8) (c - 8) (scs sta0).toArray 92 ((b.drop 8).map bv) Tryz.underlying32 Fm.u8_size g6 (by rw [List.length_map, hdl]; show _ = min _ _; omega)
        (fun j v hv => by
          have hj : j < m - 8 := by have := (List.getElem?_eq_some_iff.1 hv).1; rwa [List.length_map, hdl] at this
          obtain ⟨g', o', e, _, hc'⟩ := hd8.2.2.2 (by omega)
          injection e with e
          injection e with e1 e2
          subst e1; subst e2
          rw [show (⟨g, o + 8, none⟩ : Addr).add j = ⟨g, o + 8 + j, none⟩ by unfold Addr.add; split <;> simp_all]
          rw [List.getElem?_map, List.getElem?_eq_getElem (by omega)] at hv
          exact (hc' j (by omega)).trans hv)
        (by rw [List.length_map, hdl]; simp [scs_len]; omega) (by intro v hv; simp only [List.mem_map] at hv; obtain ⟨x, _, rfl⟩ := hv; rfl)
      rw [List.length_map, hdl] at this
      exact this
    obtain ⟨V, hV⟩ : ∃ V, V = W1.drew.setRow (w.heap.size + 1) ((scs sta0).take 1 ++ (b.drop 8).map bv ++ (scs sta0).drop (1 + (m - 8))).toArray := ⟨_, rfl⟩
    have gV : V.heap[w.heap.size + 1]? = some (.cells ((scs sta0).take 1 ++ (b.drop 8).map bv ++ (scs sta0).drop (1 + (m - 8))).toArray 92 (0, 0)) := hV ▸ Fm.setRow_heap' W1.drew _ _ _ _ _ g6
    have hVo : ∀ k, k ≠ w.heap.size + 1 → V.heap[k]? = W1.heap[k]? := fun k hk => hV ▸ setRow_other W1.drew _ k _ hk
    have hVs : V.heap.size = w.heap.size + 2 := by rw [hV]; simpa [World.setRow] using hs1
    have hbV : Below w.heap.size w V := hb1.trans ⟨by rw [hV]; rfl, by rw [hV]; rfl, by rw [hV]; rfl, by omega, fun k hk => hVo k (by omega)⟩
    have r6 : V.rowIs (w.heap.size + 1) 92 513 (stc ⟨0, bitsIn b⟩) := by
      refine ⟨_, gV, by simp [scs_len]; omega, fun j hj => ?_⟩
      have hdl : (b.drop 8).length = m - 8 := by rw [List.length_drop, hl]
      have e1 : ((scs sta0).take 1).length = 1 := by simp [scs_len]
      rw [List.getElem?_toArray, List.append_assoc]
      rcases Nat.eq_zero_or_pos j with rfl | hp
      · rw [List.getElem?_append_left (by omega), List.getElem?_take_of_lt (by omega), scs_at _ _ (by omega)]; rfl
      · rw [List.getElem?_append_right (by omega), e1]
        have e2 : stc ⟨0, bitsIn b⟩ j = .int .u8 (pk (bitsIn b) (j - 1) : Int) := by unfold stc; rw [if_neg (by omega)]
        rw [e2]
        by_cases h2 : j - 1 < m - 8
        · rw [List.getElem?_append_left (by rw [List.length_map]; omega), List.getElem?_map, List.getElem?_drop, pk_bitsIn b _ (by omega)]
          rw [List.getD_eq_getElem?_getD, List.getElem?_eq_getElem (by omega)]; rfl
        · rw [List.getElem?_append_right (by rw [List.length_map]; omega), List.length_map, hdl, List.getElem?_drop, scs_at _ _ (by omega), pk_bitsIn_out b _ (by omega)]
          unfold stc; rw [if_neg (by omega)]
          have : pk sta0.has (1 + (m - 8) + (j - 1 - (m - 8)) - 1) = 0 := by
            symm; exact pk_of _ _ _ (by omega) fun i hi => by simp [sta0]
          rw [this]
    have r4V : V.rowIs w.heap.size 92 513 (stc sta0) := r4.of_block (hVo _ (by omega))
    have hrV := hr.below hbV
    have S6 := rowIs_sta r6
    have HV := Lib.hid (And.intro hbV (And.intro r6 (And.intro r4V (And.intro hrV hVs))))
    have hcond : (((m : Nat) : Int) != wrap64 (8 + (((n + 7) / 8 : Nat) : Int))) = false := by
      have : wrap64 (8 + (((n + 7) / 8 : Nat) : Int)) = 8 + (((n + 7) / 8 : Nat) : Int) := by unfold wrap64; omega
      rw [this]; simp; omega
    have i1 : IntKind.i64.wrap 8 = 8 := by decide
    have hzc := zc73
    have HHW := Lib.hid hW1
    have HHV := Lib.hid hV
    have HL := Lib.hid (And.intro hl (And.intro h0 (And.intro hm hm8)))
    have hc8 : ¬ c = 8 := by have := hr.1; omega
    have j1 : (8 : Int) ≤ (m : Int) := by omega
    have j2 : (m : Int) ≤ (c : Int) := by have := hr.1; omega
    have hcc : (c : Int) ≤ 9223372036854775807 := by have := hr.2.1; unfold maxLen at this; omega
    rw [← hV] at hcp
    generalize (n + 7) / 8 = k at HS hcond
    clear hr hr1 hb1 hs1 r4 g6 hd8 hV gV hVo hVs hbV r6 r4V hrV S6 hW1 hl h0 hm hm8 hcell
    go_enter Tryz.func84, Tryz.ntmps84
    go_wp2_with (first
      | (go_at_call 113; refine (HS.out _).mono ?_; rintro e w5 ⟨rfl, hw5⟩; obtain rfl := hw5.symm))
    rw [← HHW.out]
    go_still_tail 4, (by kernel_rfl)
    change wpList _ _ _ _ _ W1.drew
    generalize W1.drew = W2 at hcp ⊢
    go_wp2
    have HTH := Lib.hid (And.intro (StRow.there ⟨_, HV.out.2.2.1⟩ sta0) (And.intro (info73a sta0) (one_scs' sta0)))
    have HZ := Lib.hid (StRow.set ⟨_, HV.out.2.2.1⟩ sta0)
    have HBZ := Lib.hid (HV.out.1.trans ((setCells_fr w.heap.size (scs sta0) 0 V).below (by have := HV.out.1.size; omega) fun k e => by omega) : Below w.heap.size w (V.setCells w.heap.size 0 (scs sta0)))
    have HI := Lib.hid (info73 sta0)
    clear hcp j1 j2 hcc hc8
    go_loopw [21] (fun v wr => ∃ q : Nat, q ≤ 4096 ∧ v = .int .i64 q ∧ wr = V ∧ Hid (∀ p, p < q → bitsIn b p = true → 2 ≤ p ∧ p < n)) (fun v _ => 4096 - (intOf v).toNat)
    case atStart => exact ⟨0, by omega, rfl, rfl, Lib.hid fun p hp => by omega⟩
    case round =>
      obtain ⟨q, hq, rfl, rfl, hall⟩ := hrel
      by_cases hlt : q < 4096
      · have hlt' : (q : Int) < 4096 := by omega
        have hA := has_any wr (w.heap.size + 1) 0 ⟨0, bitsIn b⟩ q (rowIs_sta HV.out.2.1)
        rw [hasI_nat _ q hlt] at hA
        have hA : Calls Tryz.prog 86 #[.pointer (some ⟨w.heap.size + 1, 0, none⟩), .int .i64 (q : Int)] wr fun e w' => e = .returned (.bool (bitsIn b q)) ∧ w' = wr := hA
        by_cases hb : bitsIn b q = true
        · rw [hb] at hA
          have HA := Lib.hid hA
          by_cases hr2 : 2 ≤ q ∧ q < n
          · have e1 : (2 : Int) ≤ (q : Int) := by omega
            have e2 : (q : Int) < (n : Int) := by omega
            have hall2 := Lib.hid (show ∀ p, p < q + 1 → bitsIn b p = true → 2 ≤ p ∧ p < n from fun p hp hbp => by
              by_cases e : p = q
              · subst e; exact hr2
              · exact hall.out p (by omega) hbp)
            clear hA hr2 hb hcond i1 hn hn1 hg
            go_wp2_with (go_at_call 86; refine HA.out.mono ?_; rintro e w1 ⟨rfl, hw1⟩; obtain rfl := hw1.symm)
            go_roundw
            case rel => exact ⟨q + 1, by omega, by go_num, trivial, hall2⟩
            case measure => simp [intOf]; omega
          · have HN := Lib.hid (show ¬ mayHead b n from fun e => hr2 (e.2.1 q hlt hb))
            clear hA hb
            by_cases e1 : (q : Int) < 2
            · clear hr2
              go_wp2_with (first
                | (go_at_call 86; refine HA.out.mono ?_; rintro e w1 ⟨rfl, hw1⟩; obtain rfl := hw1.symm)
                | (refine wpList_store_mid rfl 92 _ _ rfl w.heap.size 0 _ rfl rfl HTH.out.1 HTH.out.2.1 HTH.out.2.2 ?_))
              refine bodyPost_ret (results_ct rfl w.heap.size (scs sta0) _ rfl (StaAt.range (rowIs_sta HZ.out)) Tryz.underlying92 rfl HI.out) rfl ?_
              exact ⟨sta0, false, rfl, fun e => (by cases e), fun _ => HN.out, HBZ.out⟩
            · have e2 : (n : Int) ≤ (q : Int) := by omega
              clear hr2
              go_wp2_with (first
                | (go_at_call 86; refine HA.out.mono ?_; rintro e w1 ⟨rfl, hw1⟩; obtain rfl := hw1.symm)
                | (refine wpList_store_mid rfl 92 _ _ rfl w.heap.size 0 _ rfl rfl HTH.out.1 HTH.out.2.1 HTH.out.2.2 ?_))
              refine bodyPost_ret (results_ct rfl w.heap.size (scs sta0) _ rfl (StaAt.range (rowIs_sta HZ.out)) Tryz.underlying92 rfl HI.out) rfl ?_
              exact ⟨sta0, false, rfl, fun e => (by cases e), fun _ => HN.out, HBZ.out⟩
        · have hb' : bitsIn b q = false := by simpa using hb
          rw [hb'] at hA
          have HA := Lib.hid hA
          have hall2 := Lib.hid (show ∀ p, p < q + 1 → bitsIn b p = true → 2 ≤ p ∧ p < n from fun p hp hbp => by
            by_cases e : p = q
            · subst e; rw [hb'] at hbp; cases hbp
            · exact hall.out p (by omega) hbp)
          clear hA hb hb'
          go_wp2_with (go_at_call 86; refine HA.out.mono ?_; rintro e w1 ⟨rfl, hw1⟩; obtain rfl := hw1.symm)
          go_roundw
          case rel => exact ⟨q + 1, by omega, by go_num, trivial, hall2⟩
          case measure => simp [intOf]; omega
      · obtain rfl : q = 4096 := by omega
        have hnl : ¬ ((4096 : Nat) : Int) < 4096 := by omega
        clear hlt
        have hbV := HV.out.1
        have hszV : wr.heap.size = w.heap.size + 2 := HV.out.2.2.2.2
        have HNW := Lib.hid (New_any (some ⟨g, o, none⟩) c m b wr (Rd.more HV.out.2.2.2.1 hbV.size) HL.out.1 (by have := HL.out.2.2.1; omega))
        have hlen8 : ¬ b.length < 8 := by have := HL.out; omega
        have hroot : (⟨b, false⟩ : St).num 8 = rootIn b := by unfold St.num rootIn; rw [if_neg (by simp), if_neg hlen8]
        have HRO := Lib.hid hroot
        clear hbV hszV hlen8 hroot hcond i1 hn hn1 hg
        have hrl := num_lt (⟨b, false⟩ : St) 8
        rw [HRO.out] at hrl
        have RL := Lib.hid hrl
        clear hrl
        have key : ∀ w3 w4 gg, Below wr.heap.size wr w3 → wr.heap.size ≤ gg → Left w3 w4 gg ((⟨b, false⟩ : St).after 8) → Below wr.heap.size wr w4 := fun w3 w4 gg h1 h2 h3 => h1.trans (Left.below h3 h2 h1.size)
        have KEY := Lib.hid key
        clear key
        by_cases hbig : 4096 ≤ rootIn b
        · by_cases hX : True
          · by_cases hY : True
            · have HN := Lib.hid (show ¬ mayHead b n from fun e => by have := e.2.2.1; omega)
              have k1 : (4096 : Int) ≤ (rootIn b : Int) := by omega
              clear hbig hX hY
              go_wp2_with (first
                | (refine wpList_store_mid rfl 92 _ _ rfl w.heap.size 0 _ rfl rfl E4.out.th0 (info73a _) (one_scs' _) ?_)
                | (go_at_call 118; refine (RUint_any gg ⟨b, false⟩ _ G3.out).mono ?_; rintro e w4 ⟨rfl, hl4⟩; rw [HRO.out]; have b4 := KEY.out _ _ _ B3.out L3.out hl4; have B4 := Lib.hid b4; have e4 : HEnd w w4 w.heap.size (rootIn b) (bitsIn b) := hend b4 HV.out.2.2.2.2 HV.out.2.1 HV.out.2.2.1 HV.out.1; have E4 := Lib.hid e4; clear hl4 b4 e4)
                | (go_at_call 117; refine HNW.out.mono ?_; rintro e w3 ⟨gg, rfl, hl3, hg3, hb3⟩; have L3 := Lib.hid hl3; have G3 := Lib.hid hg3; have B3 := Lib.hid hb3; clear hl3 hg3 hb3))
              refine bodyPost_ret (results_ct rfl w.heap.size (scs sta0) _ rfl (StaAt.range (rowIs_sta E4.out.row0)) Tryz.underlying92 rfl (info73 _)) rfl ?_
              exact ⟨sta0, false, rfl, fun e => (by cases e), fun _ => HN.out, E4.out.bel0⟩
            · exact absurd trivial hY
          · exact absurd trivial hX
        · by_cases hz : rootIn b = 0
          · by_cases hX : True
            · have HN := Lib.hid (show mayHead b n from ⟨HL.out.2.1, fun p hp => hall.out p hp, by omega, .inl hz⟩)
              have k1 : ¬ (4096 : Int) ≤ (rootIn b : Int) := by omega
              have k2 : ((rootIn b : Int) != 0) = false := by simp; omega
              have k3 : IntKind.i64.wrap (rootIn b : Int) = (rootIn b : Int) := by rw [IntKind.wrap_i64]; omega
              have k4 : (rootIn b : Int) < 4096 := by omega
              clear hz hbig hX
              go_wp2_with (first
                | (refine wpList_load_mid rfl 92 _ rfl (w.heap.size + 1) 0 rfl _ _ E4.out.rg Tryz.underlying92 rfl (info73 _) ?_)
                | (refine wpList_store_mid rfl 92 _ _ rfl w.heap.size 0 _ rfl rfl E4.out.th (info73a _) (one_scs' _) ?_)
                | (go_at_call 118; refine (RUint_any gg ⟨b, false⟩ _ G3.out).mono ?_; rintro e w4 ⟨rfl, hl4⟩; rw [HRO.out]; have b4 := KEY.out _ _ _ B3.out L3.out hl4; have B4 := Lib.hid b4; have e4 : HEnd w w4 w.heap.size (rootIn b) (bitsIn b) := hend b4 HV.out.2.2.2.2 HV.out.2.1 HV.out.2.2.1 HV.out.1; have E4 := Lib.hid e4; have c4 := e4.c; have f4 := e4.fz; clear hl4 b4 e4)
                | (go_at_call 117; refine HNW.out.mono ?_; rintro e w3 ⟨gg, rfl, hl3, hg3, hb3⟩; have L3 := Lib.hid hl3; have G3 := Lib.hid hg3; have B3 := Lib.hid hb3; clear hl3 hg3 hb3))
              refine bodyPost_ret (results_ct rfl w.heap.size (scs ⟨rootIn b, bitsIn b⟩) _ rfl (StaAt.range (rowIs_sta E4.out.row)) Tryz.underlying92 rfl (info73 _)) rfl ?_
              exact ⟨⟨rootIn b, bitsIn b⟩, true, rfl, fun _ => ⟨HN.out, rfl⟩, fun e => (by cases e), E4.out.bel⟩
            · exact absurd trivial hX
          · by_cases hh : bitsIn b (rootIn b) = true
            · have HN := Lib.hid (show mayHead b n from ⟨HL.out.2.1, fun p hp => hall.out p hp, by omega, .inr hh⟩)
              have hA : ∀ W, Below wr.heap.size wr W → Calls Tryz.prog 86 #[.pointer (some ⟨w.heap.size + 1, 0, none⟩), .int .i64 (rootIn b : Int)] W fun e w' => e = .returned (.bool true) ∧ W = w' := fun W hW => by
                have := has_any W (w.heap.size + 1) 0 ⟨0, bitsIn b⟩ (rootIn b : Int) ((rowIs_sta HV.out.2.1).keep (hW.block _ (by have := HV.out.2.2.2.2; omega)))
                rw [hasI_nat _ _ (by omega)] at this
                refine this.mono ?_
                rintro e w' ⟨rfl, rfl⟩
                exact ⟨by show Ending.returned (Value.bool (bitsIn b (rootIn b))) = _; rw [hh], rfl⟩
              have HA := Lib.hid hA
              have k1 : ¬ (4096 : Int) ≤ (rootIn b : Int) := by omega
              have k2 : ((rootIn b : Int) != 0) = true := by simp; omega
              have k3 : IntKind.i64.wrap (rootIn b : Int) = (rootIn b : Int) := by rw [IntKind.wrap_i64]; omega
              have k4 : (rootIn b : Int) < 4096 := by omega
              clear hA hz hh hbig
              go_wp2_with (first
                | (refine wpList_load_mid rfl 92 _ rfl (w.heap.size + 1) 0 rfl _ _ E4.out.rg Tryz.underlying92 rfl (info73 _) ?_)
                | (refine wpList_store_mid rfl 92 _ _ rfl w.heap.size 0 _ rfl rfl E4.out.th (info73a _) (one_scs' _) ?_)
                | (go_at_call 86; refine (HA.out _ B4.out).mono ?_; rintro e w5 ⟨rfl, rfl⟩)
                | (go_at_call 118; refine (RUint_any gg ⟨b, false⟩ _ G3.out).mono ?_; rintro e w4 ⟨rfl, hl4⟩; rw [HRO.out]; have b4 := KEY.out _ _ _ B3.out L3.out hl4; have B4 := Lib.hid b4; have e4 : HEnd w w4 w.heap.size (rootIn b) (bitsIn b) := hend b4 HV.out.2.2.2.2 HV.out.2.1 HV.out.2.2.1 HV.out.1; have E4 := Lib.hid e4; have c4 := e4.c; have f4 := e4.fz; clear hl4 b4 e4)
                | (go_at_call 117; refine HNW.out.mono ?_; rintro e w3 ⟨gg, rfl, hl3, hg3, hb3⟩; have L3 := Lib.hid hl3; have G3 := Lib.hid hg3; have B3 := Lib.hid hb3; clear hl3 hg3 hb3))
              refine bodyPost_ret (results_ct rfl w.heap.size (scs ⟨rootIn b, bitsIn b⟩) _ rfl (StaAt.range (rowIs_sta E4.out.row)) Tryz.underlying92 rfl (info73 _)) rfl ?_
              exact ⟨⟨rootIn b, bitsIn b⟩, true, rfl, fun _ => ⟨HN.out, rfl⟩, fun e => (by cases e), E4.out.bel⟩
            · have hh' : bitsIn b (rootIn b) = false := by simpa using hh
              have HN := Lib.hid (show ¬ mayHead b n from fun e => e.2.2.2.elim (fun e2 => hz e2) (fun e2 => hh e2))
              have hA : ∀ W, Below wr.heap.size wr W → Calls Tryz.prog 86 #[.pointer (some ⟨w.heap.size + 1, 0, none⟩), .int .i64 (rootIn b : Int)] W fun e w' => e = .returned (.bool false) ∧ W = w' := fun W hW => by
                have := has_any W (w.heap.size + 1) 0 ⟨0, bitsIn b⟩ (rootIn b : Int) ((rowIs_sta HV.out.2.1).keep (hW.block _ (by have := HV.out.2.2.2.2; omega)))
                rw [hasI_nat _ _ (by omega)] at this
                refine this.mono ?_
                rintro e w' ⟨rfl, rfl⟩
                exact ⟨by show Ending.returned (Value.bool (bitsIn b (rootIn b))) = _; rw [hh'], rfl⟩
              have HA := Lib.hid hA
              have k1 : ¬ (4096 : Int) ≤ (rootIn b : Int) := by omega
              have k2 : ((rootIn b : Int) != 0) = true := by simp; omega
              have k3 : IntKind.i64.wrap (rootIn b : Int) = (rootIn b : Int) := by rw [IntKind.wrap_i64]; omega
              have k4 : (rootIn b : Int) < 4096 := by omega
              clear hA hz hh hh' hbig
              go_wp2_with (first
                | (refine wpList_store_mid rfl 92 _ _ rfl w.heap.size 0 _ rfl rfl E4.out.th0 (info73a _) (one_scs' _) ?_)
                | (go_at_call 86; refine (HA.out _ B4.out).mono ?_; rintro e w5 ⟨rfl, rfl⟩)
                | (go_at_call 118; refine (RUint_any gg ⟨b, false⟩ _ G3.out).mono ?_; rintro e w4 ⟨rfl, hl4⟩; rw [HRO.out]; have b4 := KEY.out _ _ _ B3.out L3.out hl4; have B4 := Lib.hid b4; have e4 : HEnd w w4 w.heap.size (rootIn b) (bitsIn b) := hend b4 HV.out.2.2.2.2 HV.out.2.1 HV.out.2.2.1 HV.out.1; have E4 := Lib.hid e4; clear hl4 b4 e4)
                | (go_at_call 117; refine HNW.out.mono ?_; rintro e w3 ⟨gg, rfl, hl3, hg3, hb3⟩; have L3 := Lib.hid hl3; have G3 := Lib.hid hg3; have B3 := Lib.hid hb3; clear hl3 hg3 hb3))
              refine bodyPost_ret (results_ct rfl w.heap.size (scs sta0) _ rfl (StaAt.range (rowIs_sta E4.out.row0)) Tryz.underlying92 rfl (info73 _)) rfl ?_
              exact ⟨sta0, false, rfl, fun e => (by cases e), fun _ => HN.out, E4.out.bel0⟩
  · have h1 : ((m : Int) != wrap64 (8 + (((n + 7) / 8 : Nat) : Int))) = true := by
      have : wrap64 (8 + (((n + 7) / 8 : Nat) : Int)) = 8 + (((n + 7) / 8 : Nat) : Int) := by unfold wrap64; omega
      rw [this]; simp; omega
    have hno : ¬ mayHead b n := fun e => h0 e.1
    have HN := Lib.hid hno
    have hR := row_new w sta0
    have HT := Lib.hid (And.intro (StRow.there ⟨_, hR⟩ sta0) (And.intro (info73a sta0) (one_scs' sta0)))
    have HR := Lib.hid (StRow.set ⟨_, hR⟩ sta0)
    have hB : Below w.heap.size w ((w.alloc (.cells (scs sta0).toArray 92)).setCells w.heap.size 0 (scs sta0)) := by
      have hf := setCells_fr w.heap.size (scs sta0) 0 (w.alloc (.cells (scs sta0).toArray 92))
      exact ((Below.refl w.heap.size w).alloc (Nat.le_refl _) _).trans (hf.below (by simp) fun k e => by omega)
    have HB := Lib.hid hB
    have hzc := zc73
    have HI := Lib.hid (info73 sta0)
    generalize (n + 7) / 8 = k at HS h1
    clear hr hl h0 hno hR hB
    go_enter Tryz.func84, Tryz.ntmps84
    go_wp2_with (first
      | (go_at_call 113; refine (HS.out _).mono ?_; rintro e w5 ⟨rfl, hw5⟩; obtain rfl := hw5.symm)
      | (refine wpList_store_mid rfl 92 _ _ rfl w.heap.size 0 _ rfl rfl HT.out.1 HT.out.2.1 HT.out.2.2 ?_))
    refine bodyPost_ret (results_ct rfl w.heap.size (scs sta0) _ rfl (StaAt.range (rowIs_sta HR.out)) Tryz.underlying92 rfl HI.out) rfl ?_
    exact ⟨sta0, false, rfl, fun e => (by cases e), fun _ => HN.out, HB.out⟩
end
end Go.Proofs.YtcjokkjepgfinaaGreatDoor.Sk
namespace Go.Proofs.YtcjokkjepgfinaaGreatDoor.Sk
set_option maxRecDepth 8000
open Go.RowKit Mem Go.ChangeMaps Go.Maps Go.Sort Go.Shelf
open Dk (cod elem cod_inj elem_mk elem_inv key key_inj wf_key keyed3 MapIs Fr ptr hmf cell_alloc cell_alloc_new zero42 IsD Dsk Lay drewN_cell)
end Go.Proofs.YtcjokkjepgfinaaGreatDoor.Sk
namespace Go.Proofs.YtcjokkjepgfinaaGreatDoor.Sk
set_option maxRecDepth 8000
open Go.RowKit Mem Go.ChangeMaps
open Dk (cod elem cod_inj elem_mk elem_inv key key_inj wf_key keyed3 MapIs Fr ptr hmf cell_alloc cell_alloc_new zero42 IsD Dsk Lay drewN_cell Kp ref_zero)
section
variable {B : Nat} {W w w' : World} {sb db : Nat} {y : SLay} {s : Sto} {yd : Dk.Lay} {d : Dk.Dsk} {m : Nat}
end
structure Bo (B : Nat) (W w : World) (sb db : Nat) (y : SLay) (yd : Lay) (s : Sto) (d : Dsk) (m : Nat) : Prop where
  st : Dk.St B W w db yd d m
  is : IsS w sb y db s
  good : SGood s
  apart : ∀ k, y.foot k → ¬ yd.foot k
  low : ∀ k, y.foot k → B ≤ k
  nn : s.n = d.n
  sm : y.m ≤ m
  tabW : Tab W
  posB : 1 < B
def both (y : SLay) (yd : Lay) (k : Nat) : Prop := y.foot k ∨ yd.foot k
section
variable {B : Nat} {W w w' : World} {sb db : Nat} {y y' : SLay} {s s' : Sto} {yd yd' : Lay} {d d' : Dsk} {m m' : Nat}
theorem Bo.tab (h : Bo B W w sb db y yd s d m) : Tab w := h.tabW.below h.st.bel h.posB
theorem St.mono (h : Dk.St B W w db yd d m) (hm : m ≤ m') : Dk.St B W w db yd d m' := ⟨h.is, h.good, Nat.le_trans h.le hm, h.bel, h.low, h.base⟩
theorem Bo.mono (h : Bo B W w sb db y yd s d m) (hm : m ≤ m') : Bo B W w sb db y yd s d m' := ⟨St.mono h.st hm, h.is, h.good, h.apart, h.low, h.nn, Nat.le_trans h.sm hm, h.tabW, h.posB⟩
theorem Bo.base (h : Bo B W w sb db y yd s d m) : B ≤ w.heap.size := Nat.le_trans h.st.base h.st.bel.size
theorem Bo.ofSt (h : Bo B W w sb db y yd s d m) (st : Dk.St B W w' db yd' d' m') (hn : d'.n = d.n) (hm : m ≤ m') (k : Kp w yd w' yd') : Bo B W w' sb db y yd' s d' m' ∧ Kf (both y yd) w w' (both y yd') :=
  ⟨⟨st, h.is.fr k.fr h.apart, h.good, fun j hj hf => h.apart j hj (k.foot j (h.is.foot j hj) hf), h.low, h.nn.trans hn.symm, Nat.le_trans h.sm hm, h.tabW, h.posB⟩,
   ⟨k.fr.mono fun b _ e => .inr e, fun j hj e => e.elim .inl fun e => .inr (k.foot j hj e)⟩⟩
theorem Bo.ofIs (h : Bo B W w sb db y yd s d m) (is : IsS w' sb y' db s') (hg : SGood s') (hn : s'.n = s.n) (hm : m ≤ m') (hy : y'.m ≤ m') (k : Kf y.foot w w' y'.foot) : Bo B W w' sb db y' yd s' d m' ∧ Kf (both y yd) w w' (both y' yd) := by
  have hd : IsD w' db yd d := h.st.is.fr k.fr fun j hj e => h.apart j e hj
  have hl : ∀ j, y'.foot j → B ≤ j := k.low h.base h.low
  refine ⟨⟨⟨hd, h.st.good, Nat.le_trans h.st.le hm, h.st.bel.trans (k.fr.below h.base h.low), h.st.low, h.st.base⟩, is, hg, fun j hj hf => ?_, hl, hn.trans h.nn, hy, h.tabW, h.posB⟩, ⟨k.fr.mono fun b _ e => .inl e, fun j hj e => e.elim (fun e => .inl (k.foot j hj e)) .inr⟩⟩
  have := h.st.is.foot j hf
  exact h.apart j (k.foot j this hj) hf
theorem Bo.keep (h : Bo B W w sb db y yd s d m) (hb : Below w.heap.size w w') : Bo B W w' sb db y yd s d m :=
  ⟨h.st.keep hb, h.is.below hb, h.good, h.apart, h.low, h.nn, h.sm, h.tabW, h.posB⟩
end
def freshPs (s : Sto) : List Nat := (List.range 4096).filter fun p => (s.cur.fresh p).isSome
def pageF (s : Sto) (t p : Nat) : List UInt8 := Frm.frame p 2 t ((s.cur.fresh p).getD [])
def layTo (s : Sto) (t : Nat) : Dsk → List Nat → Int × Dsk
  | d, [] => (0, d)
  | d, p :: ps => if d.ansW p = 0 then layTo s t (d.doW p (pageF s t p)) ps else (d.ansW p, d.doW p (pageF s t p))
def Sto.head (s : Sto) : Nat := 1 - s.inForce
def headF (s : Sto) (t : Nat) : List UInt8 := Frm.frame s.head 1 t (headOf s.cur.now s.n)
def w3 (d : Dsk) : Int × Dsk := (d.ansF, d.doF)
def w2 (s : Sto) (t : Nat) (d : Dsk) : Int × Dsk := if d.ansW s.head = 0 then w3 (d.doW s.head (headF s t)) else (d.ansW s.head, d.doW s.head (headF s t))
def w1 (s : Sto) (t : Nat) (d : Dsk) : Int × Dsk := if d.ansF = 0 then w2 s t d.doF else (d.ansF, d.doF)
def w0 (s : Sto) (t : Nat) (d : Dsk) : Int × Dsk := if (layTo s t d (freshPs s)).1 = 0 then w1 s t (layTo s t d (freshPs s)).2 else layTo s t d (freshPs s)
def writeD (s : Sto) (d : Dsk) : Int × Dsk := if s.stamp = 18446744073709551615 then (10, d) else w0 s (s.stamp + 1) d
theorem layTo_cons (s : Sto) (t : Nat) (d : Dsk) (p : Nat) (l : List Nat) : layTo s t d (p :: l) = if d.ansW p = 0 then layTo s t (d.doW p (pageF s t p)) l else (d.ansW p, d.doW p (pageF s t p)) := rfl
theorem doW_n (d : Dsk) (i : Int) (l : List UInt8) : (d.doW i l).n = d.n := by
  unfold Dk.Dsk.doW Dk.Dsk.burn Dk.Dsk.put
  split
  · split
    · split <;> rfl
    · split <;> rfl
    · split <;> rfl
  · rfl
theorem doF_n (d : Dsk) : d.doF.n = d.n := by
  unfold Dk.Dsk.doF Dk.Dsk.flush Dk.Dsk.flushed Dk.Dsk.burn
  repeat' split
  all_goals rfl
theorem layTo_n (s : Sto) (t : Nat) (d : Dsk) (l : List Nat) : (layTo s t d l).2.n = d.n := by
  induction l generalizing d with
  | nil => rfl
  | cons p l ih =>
    rw [layTo_cons]
    split
    · rw [ih, doW_n]
    · exact doW_n _ _ _
theorem mem_freshPs (s : Sto) (p : Nat) : p ∈ freshPs s ↔ p < 4096 ∧ (s.cur.fresh p).isSome = true := by simp [freshPs]
section
variable {B : Nat} {W w w' : World} {sb db : Nat} {y y' : SLay} {s s' : Sto} {yd yd' : Lay} {d d' : Dsk} {m m' : Nat}
def Sto.wrote (s : Sto) : Sto := { s with stamp := s.stamp + 1, inForce := s.head }
def Sto.after (s : Sto) (r : Int) : Sto := if r = 0 then s.wrote else s
theorem after_ok (s : Sto) {r : Int} (h : r = 0) : s.after r = s.wrote := if_pos h
theorem wrote_good (hg : SGood s) (h : s.stamp + 1 < 18446744073709551616) : SGood s.wrote :=
  { n4 := hg.n4, n5 := hg.n5, kept := hg.kept, view := hg.view, chain := hg.chain, mark := hg.mark, mono := hg.mono, none := hg.none, same := hg.same, markSame := hg.markSame
    force := by show 1 - s.inForce < 2; omega
    stamp := h }
end
def comA (s : Sto) (d : Dsk) : Int := if s.changed then (writeD s d).1 else 0
def comD (s : Sto) (d : Dsk) : Dsk := if s.changed then (writeD s d).2 else d
def comS (s : Sto) (d : Dsk) : Sto := if s.changed then (if (writeD s d).1 = 0 then s.wrote.begin s.cur.now else s) else s.begin s.cur.now
def ansC (s : Sto) (d : Dsk) : Int := if gone s d then 9 else comA s d
def diskC (s : Sto) (d : Dsk) : Dsk := if gone s d then d else comD s d
def stoC (s : Sto) (d : Dsk) : Sto := if gone s d then { s with dead := true } else if comA s d = 9 then { comS s d with dead := true } else comS s d
section
variable {B : Nat} {W w w' : World} {sb db : Nat} {y y' : SLay} {s s' : Sto} {yd yd' : Lay} {d d' : Dsk} {m m' : Nat}
theorem enter37 (args : Array Value) (W : World) : (callFunc 45 args).run Tryz.prog W = .ok (.enter 45 args) W := by kernel_rfl
theorem IsS.setDead (h : IsS w sb y db s) (b : Bool) : IsS (w.setCell ⟨sb, 1033, none⟩ (.bool b)) sb y db { s with dead := b } := by
  refine h.setRow (by simp [World.setCell]) ?_ (fun k hk _ => Below.heap_setCell _ _ _ _ hk) rfl rfl rfl
  refine (h.row.set 1033 _).congr fun j hj => ?_
  unfold scell
  by_cases e : j = 1033
  · subst e; rfl
  · rw [if_neg e]
    have : ¬ (1033 : Nat) ≤ j := by omega
    rcases (by omega : j < 513 ∨ (513 ≤ j ∧ j < 1026) ∨ j = 1026 ∨ j = 1027 ∨ j = 1028 ∨ j = 1029 ∨ j = 1030 ∨ j = 1031 ∨ j = 1032) with h1 | h1 | h1
    · rw [if_pos h1, if_pos h1]
    · simp only [if_neg (show ¬ j < 513 by omega), if_pos h1.2]
    · rcases h1 with rfl | rfl | rfl | rfl | rfl | rfl | rfl <;> rfl
end
end Go.Proofs.YtcjokkjepgfinaaGreatDoor.Sk
namespace Go.Proofs.YtcjokkjepgfinaaGreatDoor.Sk
set_option maxRecDepth 8000
open Go.RowKit Mem Go.ChangeMaps
open Dk (cod elem cod_inj elem_mk elem_inv key key_inj wf_key keyed3 MapIs Fr ptr hmf cell_alloc cell_alloc_new zero42 IsD Dsk Lay drewN_cell Kp ref_zero)
open Fm (gets get_yes get_no tab_low)
structure Lk where
  kept : Sta
  force : Nat
  stamp : Nat
  best : Nat
def lk0 : Lk := ⟨sta0, 0, 0, 0⟩
def takes (d : Dsk) (n a : Nat) (x : Lk) : Prop := Frm.whole (d.page a) a 1 ∧ x.best < Frm.newest (d.page a) ∧ mayHead (Frm.held (d.page a)) n
open Classical in
noncomputable def lkStep (d : Dsk) (n a : Nat) (x : Lk) : Lk := if takes d n a x then ⟨staIn (Frm.held (d.page a)), a, max x.stamp (Frm.newest (d.page a)), Frm.newest (d.page a)⟩ else { x with stamp := max x.stamp (Frm.newest (d.page a)) }
noncomputable def lkTo (d : Dsk) (n : Nat) : Nat → Lk
  | 0 => lk0
  | k + 1 => lkStep d n k (lkTo d n k)
theorem lk_yes {d : Dsk} {n a : Nat} {x : Lk} (h : takes d n a x) : lkStep d n a x = ⟨staIn (Frm.held (d.page a)), a, max x.stamp (Frm.newest (d.page a)), Frm.newest (d.page a)⟩ := if_pos h
theorem lk_no {d : Dsk} {n a : Nat} {x : Lk} (h : ¬ takes d n a x) : lkStep d n a x = { x with stamp := max x.stamp (Frm.newest (d.page a)) } := if_neg h
theorem lk_stamp (d : Dsk) (n a : Nat) (x : Lk) : (lkStep d n a x).stamp = max x.stamp (Frm.newest (d.page a)) := by
  unfold lkStep; split <;> rfl
theorem lk_lt (d : Dsk) (n k : Nat) : (lkTo d n k).stamp < 18446744073709551616 ∧ (lkTo d n k).best < 18446744073709551616 := by
  induction k with
  | zero => exact ⟨by show (0 : Nat) < _; omega, by show (0 : Nat) < _; omega⟩
  | succ k ih =>
    have := Fm.newest_lt (d.page k)
    unfold lkTo lkStep
    split
    · exact ⟨by show max _ _ < _; omega, this⟩
    · exact ⟨by show max _ _ < _; omega, ih.2⟩
def ocell (x : Lk) (db : Nat) (i : Nat) : Value :=
  if i < 513 then stc sta0 i else if i < 1026 then stc x.kept (i - 513) else
  if i = 1026 then .map none else if i = 1027 then .bool false else if i = 1028 then .slice none 0 0 else if i = 1029 then .slice none 0 0 else
  if i = 1030 then ptr db else if i = 1031 then .int .i64 (x.force : Int) else if i = 1032 then .int .u64 (x.stamp : Int) else .bool false
section
variable {w w' : World} {sb db : Nat} {y y' : SLay} {yd : Lay} {d : Dsk}
theorem o_stamp {x : Lk} (h : w.rowIs sb 100 1034 (ocell x db)) (t : Nat) : (w.setCell ⟨sb, 1032, none⟩ (.int .u64 (t : Int))).rowIs sb 100 1034 (ocell { x with stamp := t } db) := (h.set 1032 _).congr fun j hj => by
  unfold ocell
  by_cases e : j = 1032
  · subst e; rfl
  · rw [if_neg e]; simp only [if_neg e]
theorem o_force {x : Lk} (h : w.rowIs sb 100 1034 (ocell x db)) (t : Nat) : (w.setCell ⟨sb, 1031, none⟩ (.int .i64 (t : Int))).rowIs sb 100 1034 (ocell { x with force := t } db) := (h.set 1031 _).congr fun j hj => by
  unfold ocell
  by_cases e : j = 1031
  · subst e; rfl
  · rw [if_neg e]; simp only [if_neg e]
theorem o_kept {x : Lk} (h : w.rowIs sb 100 1034 (ocell x db)) (t : Sta) : (w.setCells sb 513 (scs t)).rowIs sb 100 1034 (ocell { x with kept := t } db) := (rowIs_setCells (scs t) 513 _ h).congr fun j hj => by
  unfold ocell
  by_cases h1 : j < 513
  · rw [if_neg (by omega), if_pos h1, if_pos h1]
  · rw [if_pos (by omega)]
    by_cases h2 : j < 1026
    · rw [scs_at t _ (by omega)]
      simp only [if_neg h1, if_pos h2, Option.getD_some]
    · rw [List.getElem?_eq_none (by rw [scs_len]; omega)]
      simp only [if_neg h1, if_neg h2, Option.getD_none]
theorem o_there {x : Lk} (h : w.rowIs sb 100 1034 (ocell x db)) (t : Sta) : w.there sb 513 (scs t).toArray.size := rowIs_there h 513 _ (by simp [scs_len])
theorem Rd.poke {B c : Nat} {A : Option Addr} {l : List UInt8} (h : Rd w B A c l) {q : Addr} (hA : ∀ a, A = some a → a.block ≠ q.block) (v : Value) : Rd (w.setCell q v) B A c l :=
  ⟨h.1, h.2.1, h.2.2.1, fun hn => by
    obtain ⟨b, o, e, hb, hc⟩ := h.2.2.2 hn
    refine ⟨b, o, e, hb, fun i hi => (World.cell?_setCell_other _ _ _ _ (fun e2 => hA _ e (by rw [e2]))).trans (hc i hi)⟩⟩
structure LkM (w wr wm : World) (sb db : Nat) (x : Lk) (A : Option Addr) (c : Nat) (l : List UInt8) (yd : Lay) (d : Dsk) : Prop where
  row : wm.rowIs sb 100 1034 (ocell { x with stamp := max x.stamp (Frm.newest l) } db)
  fr : Fr (fun j => j = sb) w wm
  rd : Rd wm wm.heap.size A c l
  tab : Tab wm
  isd : IsD wm db yd d
theorem lkm {wr wa wn : World} {x : Lk} {A : Option Addr} {c : Nat} {l : List UInt8} (hr : wr.rowIs sb 100 1034 (ocell x db)) (hf : Fr (fun j => j = sb) w wr) (hT : Tab wr) (hd : IsD wr db yd d) (hsb : ¬ yd.foot sb) (h0 : 1 < sb)
    (b1 : Below wr.heap.size wr wa) (r1 : Rd wa wa.heap.size A c l) (hA : ∀ a, A = some a → wr.heap.size ≤ a.block) (b2 : Below wa.drew.heap.size wa.drew wn) : LkM w wr (wn.setCell ⟨sb, 1032, none⟩ (.int .u64 ((max x.stamp (Frm.newest l) : Nat) : Int))) sb db x A c l yd d := by
  have b3 : Below wr.heap.size wr wn := (b1.drew).trans (b2.mono b1.size)
  have hlt := hr.lt
  have hs := b2.size
  have hs' : wa.heap.size ≤ wn.heap.size := hs
  have hsz : (wn.setCell ⟨sb, 1032, none⟩ (.int .u64 ((max x.stamp (Frm.newest l) : Nat) : Int))).heap.size = wn.heap.size := by simp [World.setCell]
  refine ⟨o_stamp (hr.of_block (b3.block sb hlt)) _, (hf.trans (Fr.ofBelow (F := fun j => j = sb) b3) fun j _ e => e).trans (Fr.setCell (F := fun j => j = sb) wn _ (fun _ => rfl) _) fun j _ e => e, ?_, ?_, ?_⟩
  · rw [hsz]
    exact Rd.poke (Rd.more ((r1.keep (w' := wa.drew) fun _ _ => rfl).below b2) hs') (fun a e e2 => by have := hA a e; simp at e2; omega) _
  · exact (tab_low hT b3).below (B := 1 + 1) (Below.setCell (Below.refl (1 + 1) wn) (by simp; omega) _) (by omega)
  · exact (hd.below b3).fr (Fr.setCell (F := fun j => j = sb) wn _ (fun _ => rfl) _) fun j hj e => hsb (e ▸ hj)
structure LkH (w wj wz : World) (sb db : Nat) (x : Lk) (th : Sta) : Prop where
  th0 : (wj.alloc (.cells (scs sta0).toArray 92)).there wj.heap.size 0 (scs th).toArray.size
  rg : wz.rangeAt wj.heap.size 0 (scs th)
  row : wz.rowIs sb 100 1034 (ocell x db)
  th1 : wz.there sb 513 (scs th).toArray.size
  fr : Fr (fun j => j = sb) w wz
theorem lkh {wm wj : World} {x : Lk} (th : Sta) (hr : wm.rowIs sb 100 1034 (ocell x db)) (hf : Fr (fun j => j = sb) w wm) (hb : Below wm.heap.size wm wj) : LkH w wj ((wj.alloc (.cells (scs sta0).toArray 92)).setCells wj.heap.size 0 (scs th)) sb db x th := by
  have hlt := hr.lt
  have hs := hb.size
  have hb2 : Below wm.heap.size wm ((wj.alloc (.cells (scs sta0).toArray 92)).setCells wj.heap.size 0 (scs th)) :=
    (hb.alloc hs _).trans ((setCells_fr wj.heap.size (scs th) 0 _).below (by simp; omega) fun j e => by omega)
  have hr2 := hr.of_block (hb2.block sb hlt)
  exact ⟨StRow.there ⟨_, row_new wj sta0⟩ th, StaAt.range (rowIs_sta (StRow.set ⟨_, row_new wj sta0⟩ th)), hr2, o_there hr2 th, hf.trans (Fr.ofBelow (F := fun j => j = sb) hb2) fun j _ e => e⟩
theorem wpList_store_sta {ops : Array Oper} {rest : List Oper} {op : Oper} {a : Act} {w : World} {Q : Exit → Act → World → Prop} (hgd : op.guard = none) (x z : Operand) (ho : op.op = .store 92 x z)
    (b o : Nat) (t : Sta) (hx : a.eval x = .pointer (some ⟨b, o, none⟩)) (hy : a.eval z = .agg (scs t).toArray)
    (ht : w.there b o (scs t).toArray.size) (R : World → Prop) (hR : R (w.setCells b o (scs t))) (h : ∀ wz, R wz → wpList Tryz.prog ops Q rest (a.put op.dst undef) wz) : wpList Tryz.prog ops Q (op :: rest) a w := by
  refine wpList_store_mid hgd 92 x z ho b o (scs t).toArray hx hy ht (info73a t) (one_scs' t) ?_
  rw [List.toList_toArray]
  exact h _ hR
set_option maxHeartbeats 4000000 in
theorem look_any (hr : w.rowIs sb 100 1034 (ocell lk0 db)) (hd : IsD w db yd d) (hT : Tab w) (hsb : ¬ yd.foot sb) (h0 : 1 < sb) (hg : d.dead = false) (h4 : 4 ≤ d.n) (h5 : d.n ≤ 4096) :
    Calls Tryz.prog 55 #[pt sb] w fun e w' => e = .returned (.int .i64 0) ∧ w'.rowIs sb 100 1034 (ocell (lkTo d d.n 2) db) ∧ Fr (fun k => k = sb) w w' := by
  have HD := Lib.hid hd
  have HR := Lib.hid hr
  have HT := Lib.hid hT
  have HG := Lib.hid hg
  have HP := Lib.hid (fun p hp => page_len hd p hp)
  have hlt := hr.lt
  have HLT := Lib.hid hlt
  clear hr hd hT hg hlt
  go_enter Tryz.func55, Tryz.ntmps55
  go_wp2
  go_loopw [3, 12] (fun b v wr => ∃ k : Nat, k ≤ 2 ∧ v = .int .i64 k ∧ b = .int .u64 ((lkTo d d.n k).best : Nat) ∧ Hid (wr.rowIs sb 100 1034 (ocell (lkTo d d.n k) db) ∧ Fr (fun j => j = sb) w wr)) (fun _ v _ => 2 - (intOf v).toNat)
  case atStart => exact ⟨0, by omega, rfl, rfl, Lib.hid ⟨HR.out, Fr.refl _ _⟩⟩
  case round =>
    obtain ⟨k, hk, rfl, rfl, hR⟩ := hrel
    by_cases hlt : k < 2
    · have hlt' : (k : Int) < 2 := by omega
      have hdr : IsD wr db yd d := HD.out.fr hR.out.2 (fun j hj e => hsb (e ▸ hj))
      have c30 : wr.cell? ⟨sb, 1030, none⟩ = some (ptr db) := hR.out.1.cell (by omega)
      have c32 : wr.cell? ⟨sb, 1032, none⟩ = some (.int .u64 ((lkTo d d.n k).stamp : Int)) := hR.out.1.cell (by omega)
      have RD := Lib.hid (Dk.read_ok hdr k HG.out (by omega))
      have hTr : Tab wr := HT.out.below (hR.out.2.below (B := 1 + 1) (by have := HLT.out; omega) fun j e => by omega) (by omega)
      have HTr := Lib.hid hTr
      have HPL := Lib.hid (HP.out k (by omega))
      have PLT := Lib.hid (lk_lt d d.n k)
      have HDR := Lib.hid hdr
      have HST : lkTo d d.n (k + 1) = lkStep d d.n k (lkTo d d.n k) := rfl
      have HST := Lib.hid HST
      generalize lkTo d d.n k = x at c32 hR PLT HST
      clear hdr hTr hlt
      go_wp2_with (go_at_call 81; refine RD.out.mono ?_; rintro e wa ⟨v1, rfl, ho1, hb1⟩; obtain ⟨A1, c1, rfl, hr1, hlt1, hs1⟩ := ho1.form; rw [HPL.out]; have R1 := Lib.hid hr1; have B1 := Lib.hid hb1; have HA1 := Lib.hid (show ∀ a, A1 = some a → wr.heap.size ≤ a.block from fun a e => (hlt1 a.block (by rw [e]; rfl)).1); clear ho1 hr1 hlt1 hs1 hb1)
      have RA := Lib.hid (hR.out.1.of_block (B1.out.block sb hR.out.1.lt))
      have FA := Lib.hid (hR.out.2.trans (Fr.ofBelow (F := fun j => j = sb) B1.out) fun j _ e => e)
      have HTA := Lib.hid (tab_low HTr.out B1.out)
      have ca : wa.cell? ⟨sb, 1032, none⟩ = some (.int .u64 (x.stamp : Int)) := RA.out.cell (by omega)
      have fa : wa.frozen? ⟨sb, 1032, none⟩ = false := RA.out.frozen 1032
      have NW := Lib.hid (Fm.Newest_any A1 4096 c1 (d.page k) wa.drew R1.out HPL.out)
      have LTA := Lib.hid RA.out.lt
      have CA := Lib.hid ca
      have FRA := Lib.hid fa
      clear c30 c32
      go_region_with (first
        | (go_at_call 82; refine NW.out.mono ?_; rintro e wn ⟨rfl, hn⟩; have BN := Lib.hid hn; have cn := (hn.cell LTA.out).trans CA.out; have fn := (frozen_of_block (hn.block sb LTA.out) 1032).trans FRA.out; clear hn))
      all_goals (
        have hmx : max (x.stamp : Int) (Frm.newest (d.page k) : Int) = ((max x.stamp (Frm.newest (d.page k)) : Nat) : Int) := by omega
        rw [hmx]
        have LM := Lib.hid (lkm hR.out.1 hR.out.2 HTr.out HDR.out hsb h0 B1.out R1.out HA1.out BN.out)
        have SZ := Lib.hid (Dk.size_any LM.out.isd)
        have c40 : (wn.setCell ⟨sb, 1032, none⟩ (.int .u64 ((max x.stamp (Frm.newest (d.page k)) : Nat) : Int))).cell? ⟨sb, 1030, none⟩ = some (ptr db) := LM.out.row.cell (by omega)
        generalize wn.setCell ⟨sb, 1032, none⟩ (.int .u64 ((max x.stamp (Frm.newest (d.page k)) : Nat) : Int)) = wm at LM SZ c40 ⊢
        have C40 := Lib.hid c40
        clear cn fn ca fa hmx c40
        by_cases hwh : Frm.whole (d.page k) k 1
        · have HG0 := Lib.hid (show gets (d.page k) (k : Int) 1 from ⟨by omega, by rw [Int.toNat_natCast]; exact hwh⟩)
          have hnl := Fm.newest_lt (d.page k)
          by_cases hbn : x.best < Frm.newest (d.page k)
          · have hle : ¬ (Frm.newest (d.page k) : Int) ≤ (x.best : Int) := by omega
            have GY := Lib.hid (get_yes LM.out.tab LM.out.rd HPL.out (by omega) HG0.out _ rfl _ rfl)
            have HHL := Lib.hid (Frm.held_le (d.page k))
            have ROW := Lib.hid LM.out.row
            have HTK := Lib.hid (show mayHead (Frm.held (d.page k)) d.n → lkTo d d.n (k + 1) = ⟨staIn (Frm.held (d.page k)), k, max x.stamp (Frm.newest (d.page k)), Frm.newest (d.page k)⟩ from fun hm => HST.out.trans (lk_yes ⟨hwh, hbn, hm⟩))
            have HTN := Lib.hid (show ¬ mayHead (Frm.held (d.page k)) d.n → lkTo d d.n (k + 1) = { x with stamp := max x.stamp (Frm.newest (d.page k)) } from fun hm => HST.out.trans (lk_no fun e => hm e.2.2))
            generalize Frm.newest (d.page k) = nn at hle ROW GY hnl HTK HTN
            generalize Frm.held (d.page k) = hb at GY HHL HTK HTN
            clear hwh hbn hnl HST
            have hzc := zc73
            go_wp2_with (first
              | (with_reducible change wpList _ _ _ (Oper.mk none (Op.store 92 (Operand.tmp 69) (Operand.tmp 64)) _ _ _ _ :: _) _ _; refine wpList_store_sta rfl (.tmp 69) (.tmp 64) rfl sb 513 th rfl rfl Z2.out.th1 (fun wy => wy.rowIs sb 100 1034 (ocell { x with stamp := max x.stamp nn, kept := th } db) ∧ Fr (fun j => j = sb) w wy) ⟨o_kept Z2.out.row th, Z2.out.fr.trans (setCells_fr sb (scs th) 513 wz) fun j _ e => e⟩ ?_; intro wy hy; have Z3 := Lib.hid hy; have c31 : wy.cell? ⟨sb, 1031, none⟩ = some (.int .i64 (x.force : Int)) := hy.1.cell (by omega); have f31 := hy.1.frozen 1031; clear hy)
              | (with_reducible change wpList _ _ _ (Oper.mk _ (Op.load 92 (Operand.tmp 10)) _ _ _ _ :: _) _ _; refine wpList_load_mid rfl 92 (.tmp 10) rfl wj.heap.size 0 rfl _ _ Z2.out.rg Tryz.underlying92 rfl (info73 th) ?_)
              | (with_reducible change wpList _ _ _ (Oper.mk none (Op.store 92 (Operand.tmp 10) (Operand.tmp 59)) _ _ _ _ :: _) _ _; refine wpList_store_sta rfl (.tmp 10) (.tmp 59) rfl wj.heap.size 0 th rfl rfl TH.out.th0 (fun wz => LkH w wj wz sb db { x with stamp := max x.stamp nn } th) TH.out ?_; intro wz hz; have Z2 := Lib.hid hz; clear hz)
              | (go_at_call 84; refine (heard_any A2 c2 hb.length hb R2.out rfl HHL.out d.n h5 (by omega)).mono ?_; rintro e wj ⟨th, okh, rfl, hh1, hh2, hb3⟩; have H1 := Lib.hid hh1; have H2 := Lib.hid hh2; have B3 := Lib.hid hb3; have TH := Lib.hid (lkh th (ROW.out.of_block (B2.out.block sb ROW.out.lt)) (LM.out.fr.trans (Fr.ofBelow (F := fun j => j = sb) B2.out) fun j _ e => e) hb3); clear hh1 hh2 hb3)
              | (go_at_call 52; refine (Dk.size_any (LM.out.isd.below B2.out)).mono ?_; rintro e w5 ⟨rfl, hw5⟩; obtain rfl := hw5.symm)
              | (go_at_call 83; refine GY.out.mono ?_; rintro e wg ⟨v2, rfl, ho2, hb2⟩; obtain ⟨A2, c2, rfl, hr2, _, _⟩ := ho2.form; have R2 := Lib.hid hr2; have B2 := Lib.hid hb2; have c41 := (hb2.cell LM.out.row.lt).trans C40.out; clear ho2 hb2 hr2))
            · have hok : okh = true := by assumption
              obtain ⟨hm, rfl⟩ := H1.out hok
              have hst := Lib.hid (HTK.out hm)
              go_roundw
              case rel => exact ⟨k + 1, by omega, by go_num, by rw [hst.out], Lib.hid ⟨by rw [hst.out]; exact o_force Z3.out.1 k, Z3.out.2.trans (Fr.setCell (F := fun j => j = sb) wy _ (fun _ => rfl) _) fun j _ e => e⟩⟩
              case measure => simp [intOf]; omega
            · have hok : okh = false := by assumption
              have hst := Lib.hid (HTN.out (H2.out hok))
              go_roundw
              case rel => exact ⟨k + 1, by omega, by go_num, by rw [hst.out], Lib.hid ⟨by rw [hst.out]; exact Z2.out.row, Z2.out.fr⟩⟩
              case measure => simp [intOf]; omega
          · have hst := Lib.hid (HST.out.trans (lk_no fun e => hbn e.2.1))
            have hle : (Frm.newest (d.page k) : Int) ≤ (x.best : Int) := by omega
            have GY := Lib.hid (get_yes LM.out.tab LM.out.rd HPL.out (by omega) HG0.out _ rfl _ rfl)
            have ROW := Lib.hid LM.out.row
            generalize hnn : Frm.newest (d.page k) = nn at hle hst ROW GY hnl
            clear hnn hwh hbn hnl
            go_wp2_with (go_at_call 83; refine GY.out.mono ?_; rintro e wg ⟨v2, rfl, ho2, hb2⟩; have B2 := Lib.hid hb2; clear ho2 hb2)
            go_roundw
            case rel => exact ⟨k + 1, by omega, by go_num, by rw [hst.out], Lib.hid ⟨by rw [hst.out]; exact ROW.out.of_block (B2.out.block sb ROW.out.lt), LM.out.fr.trans (Fr.ofBelow (F := fun j => j = sb) B2.out) fun j _ e => e⟩⟩
            case measure => simp [intOf]; omega
        · have hst := Lib.hid (HST.out.trans (lk_no fun e => hwh e.1))
          have HG0 := Lib.hid (show ¬ gets (d.page k) (k : Int) 1 from fun e => hwh (by have := e.2; rwa [Int.toNat_natCast] at this))
          have GN := Lib.hid (get_no LM.out.tab LM.out.rd HPL.out (by omega) HG0.out)
          clear hwh
          go_wp2_with (go_at_call 83; refine GN.out.mono ?_; rintro e wg ⟨rfl, hb2⟩; have B2 := Lib.hid hb2; clear hb2)
          go_roundw
          case rel => exact ⟨k + 1, by omega, by go_num, by rw [hst.out], Lib.hid ⟨by rw [hst.out]; exact LM.out.row.of_block (B2.out.block sb LM.out.row.lt), LM.out.fr.trans (Fr.ofBelow (F := fun j => j = sb) B2.out) fun j _ e => e⟩⟩
          case measure => simp [intOf]; omega)
    · obtain rfl : k = 2 := by omega
      go_wp2
      go_ret
      exact ⟨rfl, hR.out.1, hR.out.2⟩
end
end Go.Proofs.YtcjokkjepgfinaaGreatDoor.Sk
namespace Go.Proofs.YtcjokkjepgfinaaGreatDoor.Sk
set_option maxRecDepth 8000
open Go.RowKit Mem Go.ChangeMaps
open Dk (cod elem cod_inj elem_mk elem_inv key key_inj wf_key keyed3 MapIs Fr ptr hmf cell_alloc cell_alloc_new zero42 IsD Dsk Lay drewN_cell Kp ref_zero)
def tl0 (db : Nat) : List Value := [ptr db, .int .i64 0, .int .u64 0, .bool false]
theorem zinfo79 : (Tryz.prog.info? 100).map (fun i => (i.zero, i.size)) = some (some (.agg (z77 ++ [Value.pointer none, Value.int .i64 0, Value.int .u64 0, Value.bool false]).toArray), 1034) := by kernel_rfl
theorem size77 (W : World) : (Go.sizeOf 97).run Tryz.prog W = .ok 1030 W := sizeOf_of (by kernel_rfl) W
theorem size26 (W : World) : (Go.sizeOf 60).run Tryz.prog W = .ok 1 W := sizeOf_of (by kernel_rfl) W
theorem size3 (W : World) : (Go.sizeOf 3).run Tryz.prog W = .ok 1 W := sizeOf_of (by kernel_rfl) W
theorem size50 (W : World) : (Go.sizeOf 98).run Tryz.prog W = .ok 1 W := sizeOf_of (by kernel_rfl) W
theorem build79 (db : Nat) (W : World) : (Instr.build 100 ([(1, ptr db)] : List (Nat × Value)).toArray).run Tryz.prog W = .ok (.agg (z77 ++ tl0 db).toArray) W := by
  have hz := (zero_of_info zinfo79).1 W
  have hzl := z77_len
  unfold tl0
  generalize z77 = z at hz hzl ⊢
  simp only [Instr.build, Sem.run_bind, hz, Result.andThen_ok, Value.cells, run_underlying Tryz.underlying100]
  simp [size77, size26, size3, size50, size4]
  rw [fill_one _ _ 1 (ptr db) _ 1030 (by simp [Value.cells]) (by simp [Value.cells, hzl])]
  have e1 : (z ++ [Value.pointer none, Value.int .i64 0, Value.int .u64 0, Value.bool false]).take 1030 = z := List.take_left' hzl
  have e2 : (z ++ [Value.pointer none, Value.int .i64 0, Value.int .u64 0, Value.bool false]).drop (1030 + 1) = [Value.int .i64 0, Value.int .u64 0, Value.bool false] := by
    rw [show z ++ [Value.pointer none, Value.int .i64 0, Value.int .u64 0, Value.bool false] = (z ++ [Value.pointer none]) ++ [Value.int .i64 0, Value.int .u64 0, Value.bool false] by simp, List.drop_left' (by simp [hzl])]
  simp only [Value.cells, List.size_toArray, List.length_cons, List.length_nil]
  rw [e1, e2]
  rfl
theorem zs_sta : zs = scs sta0 := by kernel_rfl
theorem ocell_at (db j : Nat) (hj : j < 1034) : (z77 ++ tl0 db)[j]? = some (ocell lk0 db j) := by
  unfold z77 tl0 ocell lk0
  rw [zs_sta]
  by_cases h1 : j < 513
  · rw [if_pos h1, List.append_assoc, List.getElem?_append_left (by rw [scs_len]; exact h1), scs_at _ _ h1]
  · rw [if_neg h1, List.append_assoc, List.getElem?_append_right (by rw [scs_len]; omega), scs_len]
    by_cases h2 : j < 1026
    · rw [if_pos h2, List.append_assoc, List.getElem?_append_left (by rw [scs_len]; omega), scs_at _ _ (by omega)]
    · rw [if_neg h2, List.append_assoc, List.getElem?_append_right (by rw [scs_len]; omega), scs_len]
      rcases (by omega : j = 1026 ∨ j = 1027 ∨ j = 1028 ∨ j = 1029 ∨ j = 1030 ∨ j = 1031 ∨ j = 1032 ∨ j = 1033) with rfl | rfl | rfl | rfl | rfl | rfl | rfl | rfl <;> rfl
noncomputable def opened (d : Dsk) : Sto := { n := d.n, cur := Vw.base (lkTo d d.n 2).kept, kept := (lkTo d d.n 2).kept, changed := false, marks := [], us := [], inForce := (lkTo d d.n 2).force, stamp := (lkTo d d.n 2).stamp, dead := false }
theorem lk_ok (d : Dsk) (k : Nat) (hn : d.n ≤ 4096) : StaOk d.n (lkTo d d.n k).kept := by
  induction k with
  | zero => exact ⟨fun p h => (by cases h), .inl rfl⟩
  | succ k ih =>
    by_cases h : takes d d.n k (lkTo d d.n k)
    · show StaOk d.n (lkStep d d.n k (lkTo d d.n k)).kept
      rw [lk_yes h]; exact mayHead_ok h.2.2 hn
    · show StaOk d.n (lkStep d d.n k (lkTo d d.n k)).kept
      rw [lk_no h]; exact ih
theorem lk_force (d : Dsk) (k : Nat) : (lkTo d d.n k).force = 0 ∨ (lkTo d d.n k).force < k := by
  induction k with
  | zero => exact .inl rfl
  | succ k ih =>
    by_cases h : takes d d.n k (lkTo d d.n k)
    · refine .inr ?_
      show (lkStep d d.n k (lkTo d d.n k)).force < k + 1
      rw [lk_yes h]; exact Nat.lt_succ_self k
    · show (lkStep d d.n k (lkTo d d.n k)).force = 0 ∨ (lkStep d d.n k (lkTo d d.n k)).force < k + 1
      rw [lk_no h]
      exact ih.imp id fun e => Nat.lt_succ_of_lt e
theorem opened_good (d : Dsk) (h4 : 4 ≤ d.n) (h5 : d.n ≤ 4096) : SGood (opened d) :=
  have hk := lk_ok d 2 h5
  { n4 := h4, n5 := h5, kept := hk, view := fun k => base_ok hk
    chain := fun k x hx => by simp [opened] at hx
    mark := fun i x hx => by simp [opened] at hx
    mono := fun i j x y _ hx => by simp [opened] at hx
    none := fun _ => rfl, same := fun _ => rfl
    markSame := fun i x hx => by simp [opened] at hx
    force := by have := lk_force d 2; show (lkTo d d.n 2).force < 2; omega
    stamp := (lk_lt d d.n 2).1 }
section
variable {B : Nat} {W w w' : World} {sb db : Nat} {y y' : SLay} {s s' : Sto} {yd yd' : Lay} {d d' : Dsk} {m m' : Nat}
set_option maxHeartbeats 1000000 in
theorem abort_row {x : Lk} (hr : w.rowIs sb 100 1034 (ocell x db)) :
    Calls Tryz.prog 21 #[pt sb] w fun e w' => e = .returned (.tuple #[]) ∧ w'.rowIs sb 100 1034 (fun i => if i < 1030 then bcell x.kept (w.heap.size + 1) i else ocell x db i) ∧ MapN w' (w.heap.size + 1) 0 (fun _ => none) ∧ Fr (fun k => k = sb) w w' := by
  have hk : StaAt w sb 513 x.kept := fun j hj => by
    rw [hr.cell (by omega)]; unfold ocell; rw [if_neg (by omega), if_pos (by omega)]
    congr 2; omega
  have hk2 : StaAt w.drew sb 513 x.kept := hk
  have ld := Lib.hid (And.intro hk2.range (info73 x.kept))
  have hb := Lib.hid (begin_row (ocell x db) x.kept hr.drew)
  generalize scs x.kept = ar at ld hb
  clear hk hk2
  go_enter Tryz.func21, Tryz.ntmps21
  go_wp2
  go_still_tail 8, (by kernel_rfl)
  refine wpStill_load rfl 92 _ rfl sb 513 rfl _ _ ld.out.1 Tryz.underlying92 rfl ld.out.2 ?_
  refine wpStill_nil ?_
  change wpList _ _ _ _ _ w.drew
  go_wp2_with (go_at_call 47; refine hb.out.mono ?_; rintro e w1 ⟨rfl, h1, h2, h3⟩; have H1 := Lib.hid h1; have H2 := Lib.hid h2; have H3 := Lib.hid h3; clear h1 h2 h3)
  first | go_end0 | (simp only [Exit.inBlock, Exit.then]; refine bodyPost_ret (results_none rfl _ _ _) rfl ?_) | refine bodyPost_ret (results_none rfl _ _ _) rfl ?_
  exact ⟨rfl, H1.out, H2.out, (Fr.refl _ w).drew.trans H3.out fun _ _ e => e⟩
set_option maxHeartbeats 2000000 in
theorem open_any (st : Dk.St B W w db yd d m) (hT : Tab W) (hB : 1 < B) (hg : d.dead = false) (h4 : 4 ≤ d.n) (h5 : d.n ≤ 4096) (hs : (lkTo d d.n 2).stamp ≠ 18446744073709551615) :
    Calls Tryz.prog 27 #[ptr db] w fun e w' => ∃ sb y, e = .returned (.tuple #[pt sb, .int .i64 0]) ∧ Bo B W w' sb db y yd (opened d) d m ∧ Kf yd.foot w w' (both y yd) := by
  obtain ⟨V, hV⟩ : ∃ V, V = w.alloc (.cells (z77 ++ tl0 db).toArray 100) := ⟨_, rfl⟩
  have hb1 : Below w.heap.size w V := hV ▸ (Below.refl w.heap.size w).alloc (Nat.le_refl _) _
  have hrow : V.rowIs w.heap.size 100 1034 (ocell lk0 db) := by
    have := World.rowIs_alloc w (z77 ++ tl0 db).toArray 100 (ocell lk0 db) (fun i hi => by
      have hi : i < 1034 := by simpa [z77_len, tl0] using hi
      simpa using ocell_at db i hi)
    rw [hV]
    simpa [z77_len, tl0] using this
  have hD := st.is.below hb1
  have hnf : ¬ yd.foot w.heap.size := fun e => by have := st.is.foot _ e; omega
  have hbase : B ≤ w.heap.size := Nat.le_trans st.base st.bel.size
  have hTV : Tab V := hT.below (st.bel.trans (hb1.mono hbase)) hB
  have LK := Lib.hid (look_any hrow hD hTV hnf (by omega) hg h4 h5)
  have hdd := Dk.dead_any st.is
  rw [hg] at hdd
  have DD := Lib.hid hdd
  have SZ := Lib.hid (Dk.size_any st.is)
  have BD := Lib.hid (build79 db w)
  have hV' := Lib.hid hV
  have ST := Lib.hid st
  have HB1 := Lib.hid hb1
  have hne : ((lkTo d d.n 2).stamp : Int) ≠ 18446744073709551615 := by omega
  have hne' : (((lkTo d d.n 2).stamp : Int) == 18446744073709551615) = false := by simpa using hne
  have hn4 : ¬ (d.n : Int) < 4 := by omega
  generalize z77 ++ tl0 db = zl at BD hV' hV
  clear hrow hD hdd st hb1 hV hTV hs hne
  go_enter Tryz.func27, Tryz.ntmps27
  go_wp2_with (first
    | (with_reducible change wpList _ _ _ (Oper.mk _ (Op.build 100 _) _ _ _ _ :: _) _ _; refine wpList_build rfl 100 _ rfl [(1, ptr db)] rfl _ BD.out ?_)
    | (go_at_call 21; refine (abort_row R2.out).mono ?_; rintro e w3 ⟨rfl, h1, h2, h3⟩; have H1 := Lib.hid h1; have H2 := Lib.hid h2; have H3 := Lib.hid h3; clear h1 h2 h3)
    | (go_at_call 55; rw [← hV'.out]; refine LK.out.mono ?_; rintro e w2 ⟨rfl, hr2, hf2⟩; have R2 := Lib.hid hr2; have F2 := Lib.hid hf2; have c32 : w2.cell? ⟨w.heap.size, 1032, none⟩ = some (.int .u64 ((lkTo d d.n 2).stamp : Int)) := hr2.cell (by omega); clear hr2 hf2)
    | (go_at_call 52; refine SZ.out.mono ?_; rintro e w5 ⟨rfl, hw5⟩; obtain rfl := hw5.symm)
    | (go_at_call 54; refine DD.out.mono ?_; rintro e w5 ⟨rfl, hw5⟩; obtain rfl := hw5.symm))
  go_ret2
  have hs2 := F2.out.size
  have hsV := HB1.out.size
  have hlt2 := R2.out.lt
  have hsz : w.heap.size + 1 ≤ w2.heap.size := by omega
  have hfm : w2.heap.size + 1 < w3.heap.size := H2.out.lt
  have hs3 := H3.out.size
  have hF : Fr (fun k => k = w.heap.size) w w3 := ((Fr.ofBelow (F := fun k => k = w.heap.size) HB1.out).trans F2.out fun _ _ e => e).trans H3.out fun _ _ e => e
  have hB3 : Below w.heap.size w w3 := hF.below (Nat.le_refl _) fun k e => by omega
  have hI : IsS w3 w.heap.size ⟨w2.heap.size + 1, 0, fun _ => none, .slice none 0 0, .slice none 0 0, [], fun k => if k = w.heap.size then some .store else if k = w2.heap.size + 1 then some .fresh else none⟩ db ((opened d).begin (lkTo d d.n 2).kept) := by
    refine IsS.begun H1.out (fun i hi hi2 => ?_) H2.out ?_ ?_ ?_
    · rcases (by omega : i = 1030 ∨ i = 1031 ∨ i = 1032 ∨ i = 1033) with rfl | rfl | rfl | rfl <;> rfl
    · simp
    · show (if w2.heap.size + 1 = w.heap.size then some SRole.store else if w2.heap.size + 1 = w2.heap.size + 1 then some SRole.fresh else none) = _
      rw [if_neg (by omega), if_pos rfl]
    · intro k hk
      by_cases e1 : k = w.heap.size
      · omega
      · by_cases e2 : k = w2.heap.size + 1
        · omega
        · simp [e1, e2] at hk
  have hI2 : IsS w3 w.heap.size _ db (opened d) := hI
  have hft : ∀ k, (⟨w2.heap.size + 1, 0, fun _ => none, .slice none 0 0, .slice none 0 0, [], fun k => if k = w.heap.size then some .store else if k = w2.heap.size + 1 then some .fresh else none⟩ : SLay).foot k → w.heap.size ≤ k := fun k hk => by
    unfold SLay.foot at hk
    simp only at hk
    by_cases e1 : k = w.heap.size
    · omega
    · by_cases e2 : k = w2.heap.size + 1
      · omega
      · simp [e1, e2] at hk
  refine ⟨w.heap.size, _, rfl, ⟨ST.out.keep hB3, hI2, opened_good d h4 h5, fun k hk hf => ?_, fun k hk => Nat.le_trans hbase (hft k hk), rfl, Nat.zero_le _, hT, hB⟩, ⟨Fr.ofBelow hB3, fun k hk e => ?_⟩⟩
  · have := ST.out.is.foot k hf
    have := hft k hk
    omega
  · rcases e with e | e
    · have := hft k e; omega
    · exact e
end
end Go.Proofs.YtcjokkjepgfinaaGreatDoor.Sk
namespace Go.Proofs.YtcjokkjepgfinaaGreatDoor.Sk
set_option maxRecDepth 8000
open Go.RowKit Mem Go.ChangeMaps
open Dk (cod elem cod_inj elem_mk elem_inv key key_inj wf_key keyed3 MapIs Fr ptr hmf cell_alloc cell_alloc_new zero42 IsD Dsk Lay drewN_cell Kp ref_zero newD newY)
def sto0 (n : Nat) : Sto := { n := n, cur := Vw.base sta0, kept := sta0, changed := false, marks := [], us := [], inForce := 0, stamp := 0, dead := false }
theorem newest_zero : Frm.newest Dk.zpage = 0 := by decide +kernel
theorem page_new (n p : Nat) : (newD n).page p = Dk.zpage := rfl
theorem lk_new (n : Nat) : lkTo (newD n) n 2 = lk0 := by
  have h : ∀ a x, lkStep (newD n) n a x = { x with stamp := max x.stamp 0 } := fun a x => by
    rw [lk_no (fun e => by have := e.1.2.1; rw [page_new, newest_zero] at this; omega), page_new, newest_zero]
  show lkStep (newD n) n 1 (lkStep (newD n) n 0 lk0) = lk0
  rw [h, h]
  rfl
theorem opened_new (n : Nat) : opened (newD n) = sto0 n := by
  unfold opened sto0
  have e : (newD n).n = n := rfl
  rw [e, lk_new]; rfl
section
variable {B : Nat} {W w w' : World} {sb db : Nat} {y y' : SLay} {s s' : Sto} {yd yd' : Lay} {d d' : Dsk} {m m' : Nat}
end
structure Liv (d : Dsk) : Prop where
  dead : d.dead = false
  fuse : d.fuse = none
theorem Liv.burn {d : Dsk} (h : Liv d) : d.burn = d ∧ d.burnt = false := by
  unfold Dk.Dsk.burn Dk.Dsk.burnt
  rw [h.fuse]; exact ⟨rfl, rfl⟩
theorem Liv.went {d : Dsk} (h : Liv d) : d.went = 0 := by unfold Dk.Dsk.went; rw [h.burn.2]; rfl
theorem put_page (d : Dsk) (i : Nat) (l : List UInt8) (j : Nat) : (d.put i l).page j = if j = i then l else d.page j := by
  unfold Dk.Dsk.put Dk.Dsk.page
  split <;> (show ((if j = i then some l else d.wait j).getD (d.last j)) = _; split <;> rfl)
theorem put_fields (d : Dsk) (i : Nat) (l : List UInt8) : (d.put i l).dead = d.dead ∧ (d.put i l).fuse = d.fuse := by
  unfold Dk.Dsk.put; split <;> exact ⟨rfl, rfl⟩
theorem Liv.doW {d : Dsk} (h : Liv d) {i : Nat} (hi : i < d.n) (l : List UInt8) : d.ansW i = 0 ∧ Liv (d.doW i l) ∧ ∀ j, (d.doW i l).page j = if j = i then l else d.page j := by
  have hr : d.ref i = 0 := (ref_zero d i).2 ⟨h.dead, by omega, by omega⟩
  have hp : Liv (d.put i l) := ⟨(put_fields d i l).1.trans h.dead, (put_fields d i l).2.trans h.fuse⟩
  have e : d.doW i l = d.put i l := by
    unfold Dk.Dsk.doW
    rw [if_pos hr, Int.toNat_natCast, hp.burn.1]
  refine ⟨?_, e ▸ hp, fun j => ?_⟩
  · unfold Dk.Dsk.ansW; rw [if_pos hr, h.went]
  · rw [e]; exact put_page d i l j
theorem Liv.doF {d : Dsk} (h : Liv d) : d.ansF = 0 ∧ Liv d.doF ∧ (∀ j, d.doF.page j = d.page j) ∧ ∀ j, d.doF.wait j = none := by
  have e : d.doF = d.flushed := by
    unfold Dk.Dsk.doF Dk.Dsk.flush
    rw [h.dead, h.burn.2, h.burn.1]; rfl
  refine ⟨?_, ?_, ?_, ?_⟩
  · unfold Dk.Dsk.ansF; rw [h.dead, h.went]; rfl
  · rw [e]; exact ⟨h.dead, h.fuse⟩
  · intro j; rw [e]; rfl
  · intro j; rw [e]; rfl
theorem Liv.layTo {d : Dsk} (h : Liv d) (s : Sto) (t : Nat) (l : List Nat) (hl : ∀ p, p ∈ l → p < d.n) : (layTo s t d l).1 = 0 ∧ Liv (layTo s t d l).2 ∧ ∀ j, (layTo s t d l).2.page j = if j ∈ l then pageF s t j else d.page j := by
  induction l generalizing d with
  | nil => exact ⟨rfl, h, fun j => by simp [Sk.layTo]⟩
  | cons p l ih =>
    have h1 := h.doW (hl p (by simp)) (pageF s t p)
    have h2 := ih h1.2.1 (fun q hq => by rw [doW_n]; exact hl q (by simp [hq]))
    rw [layTo_cons, if_pos h1.1]
    refine ⟨h2.1, h2.2.1, fun j => ?_⟩
    rw [h2.2.2 j, h1.2.2 j]
    by_cases e : j ∈ l
    · rw [if_pos e, if_pos (by simp [e])]
    · rw [if_neg e]
      by_cases e2 : j = p
      · subst e2; rw [if_pos rfl, if_pos (by simp)]
      · rw [if_neg e2, if_neg (by simp [e, e2])]
theorem Liv.write {s : Sto} {d : Dsk} (h : Liv d) (hg : SGood s) (hn : s.n = d.n) (hs : s.stamp ≠ 18446744073709551615) :
    (writeD s d).1 = 0 ∧ Liv (writeD s d).2 ∧ (∀ j, (writeD s d).2.wait j = none) ∧ ∀ j, (writeD s d).2.page j = if j = s.head then headF s (s.stamp + 1) else if (s.cur.fresh j).isSome then pageF s (s.stamp + 1) j else d.page j := by
  have hfr : ∀ p, p ∈ freshPs s ↔ (s.cur.fresh p).isSome = true := fun p => by
    rw [mem_freshPs]
    refine ⟨fun e => e.2, fun e => ⟨?_, e⟩⟩
    have h1 := (hg.cur.fresh p).1 (by intro e2; rw [e2] at e; cases e)
    have h2 := hg.cur.has p h1.1
    have := hg.n5
    omega
  have hlt : ∀ p, p ∈ freshPs s → p < d.n := fun p hp => by
    have h1 := (hg.cur.fresh p).1 (by intro e2; have := (hfr p).1 hp; rw [e2] at this; cases this)
    have h2 := hg.cur.has p h1.1
    omega
  have h1 := h.layTo s (s.stamp + 1) (freshPs s) hlt
  have h2 := h1.2.1.doF
  have hn2 : (Sk.layTo s (s.stamp + 1) d (freshPs s)).2.doF.n = d.n := by rw [doF_n, layTo_n]
  have hh : s.head < (Sk.layTo s (s.stamp + 1) d (freshPs s)).2.doF.n := by
    rw [hn2]; have := hg.n4; unfold Sto.head; omega
  have h3 := h2.2.1.doW hh (headF s (s.stamp + 1))
  have h4 := h3.2.1.doF
  have e : writeD s d = ((0 : Int), ((Sk.layTo s (s.stamp + 1) d (freshPs s)).2.doF.doW s.head (headF s (s.stamp + 1))).doF) := by
    unfold writeD w0 w1 w2 w3
    rw [if_neg hs, if_pos h1.1, if_pos h2.1, if_pos h3.1, h4.1]
  rw [e]
  refine ⟨rfl, h4.2.1, h4.2.2.2, fun j => ?_⟩
  rw [h4.2.2.1, h3.2.2, h2.2.2.1, h1.2.2]
  by_cases e1 : j = s.head
  · rw [if_pos e1, if_pos e1]
  · rw [if_neg e1, if_neg e1]
    by_cases e2 : j ∈ freshPs s
    · rw [if_pos e2, if_pos ((hfr j).1 e2)]
    · rw [if_neg e2, if_neg (fun e3 => e2 ((hfr j).2 e3))]
theorem writeD_n (s : Sto) (d : Dsk) : (writeD s d).2.n = d.n := by
  unfold writeD w0 w1 w2 w3
  repeat' split
  all_goals simp only [doF_n, doW_n, layTo_n]
theorem lk_le (d : Dsk) (n : Nat) : (lkTo d n 2).stamp = max (Frm.newest (d.page 0)) (Frm.newest (d.page 1)) ∧ (lkTo d n 1).best ≤ Frm.newest (d.page 0) ∧ (lkTo d n 1).stamp = Frm.newest (d.page 0) := by
  refine ⟨?_, ?_, ?_⟩
  · show (lkStep d n 1 (lkStep d n 0 lk0)).stamp = _
    rw [lk_stamp, lk_stamp]
    show max (max 0 _) _ = _
    omega
  · show (lkStep d n 0 lk0).best ≤ _
    unfold lkStep
    split
    · exact Nat.le_refl _
    · exact Nat.zero_le _
  · show (lkStep d n 0 lk0).stamp = _
    rw [lk_stamp]
    show max 0 _ = _
    omega
theorem takes_head {d : Dsk} {n a t : Nat} {x : Lk} {st : Sta} (ha : a < 2) (hp : d.page a = Frm.frame a 1 t (headOf st n)) (hs : StaOk n st) (h4 : 4 ≤ n) (h5 : n ≤ 4096) (ht : t < 18446744073709551616) (ht0 : 0 < t) :
    Frm.newest (d.page a) = t ∧ staIn (Frm.held (d.page a)) = st ∧ (takes d n a x ↔ x.best < t) := by
  have hl : (headOf st n).length ≤ 4011 := by rw [headOf_len]; omega
  have m := mayHead_head st n hs h5 h4
  have e1 : Frm.newest (d.page a) = t := by rw [hp, Frm.newest_frame _ _ _ _ hl ht]
  have e2 : Frm.held (d.page a) = headOf st n := by rw [hp, Frm.held_frame _ _ _ _ hl]
  refine ⟨e1, by rw [e2, m.2], ?_⟩
  unfold takes
  rw [e1, e2]
  exact ⟨fun h => h.2.1, fun h => ⟨by rw [hp]; exact (Frm.whole_frame a 1 t a 1 _ hl (by omega) (by omega) (by omega) ht ht0).2 ⟨rfl, rfl⟩, h, m.1⟩⟩
theorem lk_commit {d d' : Dsk} {n S h : Nat} {t : Sta} (hS : (lkTo d n 2).stamp = S) (hh : h < 2) (hp : d'.page h = Frm.frame h 1 (S + 1) (headOf t n)) (hq : d'.page (1 - h) = d.page (1 - h)) (hs : StaOk n t) (h4 : 4 ≤ n) (h5 : n ≤ 4096) (hl : S + 1 < 18446744073709551616) :
    lkTo d' n 2 = ⟨t, h, S + 1, S + 1⟩ := by
  have hm := (lk_le d n).1
  rw [hS] at hm
  rcases (by omega : h = 0 ∨ h = 1) with rfl | rfl
  · have T := takes_head (x := lk0) hh hp hs h4 h5 hl (by omega)
    have e0 : lkTo d' n 1 = ⟨t, 0, S + 1, S + 1⟩ := by
      show lkStep d' n 0 lk0 = _
      rw [lk_yes (T.2.2.2 (by show 0 < _; omega)), T.2.1, T.1]
      show (⟨t, 0, max 0 (S + 1), S + 1⟩ : Lk) = _
      rw [Nat.zero_max]
    have hq' : d'.page 1 = d.page 1 := hq
    show lkStep d' n 1 (lkTo d' n 1) = _
    rw [e0, lk_no (fun e => by have := e.2.1; rw [hq'] at this; simp only at this; omega), hq']
    show (⟨t, 0, max (S + 1) _, S + 1⟩ : Lk) = _
    rw [Nat.max_eq_left (by omega)]
  · have hq' : d'.page 0 = d.page 0 := hq
    have e0 := (lk_le d' n).2
    rw [hq'] at e0
    have T := takes_head (x := lkTo d' n 1) hh hp hs h4 h5 hl (by omega)
    show lkStep d' n 1 (lkTo d' n 1) = _
    rw [lk_yes (T.2.2.2 (by omega)), T.2.1, T.1, e0.2, Nat.max_eq_right (by omega)]
theorem doT_good {s : Sto} {d : Dsk} {l : List UInt8} (hg : SGood s) : SGood (doT s d l) := by
  unfold doT
  split
  · rename_i h
    have hsp : s.spare ≠ 0 := fun e => by unfold ansT at h; rw [e] at h; split at h; (· cases h); split at h <;> cases h
    have hl : l.length ≤ 4011 := by
      unfold ansT at h; split at h; (· cases h); split at h; (· cases h); omega
    rcases spare_is s with e | e
    · exact absurd e.1 hsp
    · exact take_good hg e.1 e.2.1 e.2.2.1 l hl
  · exact hg
theorem doT_n (s : Sto) (d : Dsk) (l : List UInt8) : (doT s d l).n = s.n := by unfold doT; split <;> rfl
theorem doG_good {s : Sto} {d : Dsk} {r : Int} (hg : SGood s) : SGood (doG s d r) := by
  unfold doG
  split
  · exact hg
  · split
    · exact hg
    · rename_i h
      unfold Sto.badG at h
      simp only [Bool.or_eq_true, Bool.not_eq_true', decide_eq_true_eq, not_or, Bool.not_eq_false] at h
      have := hasI_lt h.1
      exact give_good hg this.2.2 (by omega)
theorem doG_n (s : Sto) (d : Dsk) (r : Int) : (doG s d r).n = s.n := by by_cases h : gone s d = true <;> by_cases k : s.badG r = true <;> (unfold doG; simp [h, k]) <;> rfl
theorem doR_good {s : Sto} {d : Dsk} {r : Int} (hg : SGood s) : SGood (doR s d r) := by
  unfold doR
  split
  · exact hg
  · split
    · exact hg
    · rename_i h
      refine setRoot_good hg ?_
      unfold Sto.badR at h
      by_cases e : r = 0
      · subst e; exact .inl rfl
      · have : s.cur.now.hasI r = true := by simpa [e] using h
        exact .inr (hasI_lt this).2.2
theorem doR_n (s : Sto) (d : Dsk) (r : Int) : (doR s d r).n = s.n := by by_cases h : gone s d = true <;> by_cases k : s.badR r = true <;> (unfold doR; simp [h, k]) <;> rfl
theorem cnt_in (f : Nat → Bool) (n : Nat) (h : ∀ p, f p = true → 2 ≤ p ∧ p < n) : ∀ k, cntTo f k ≤ min k n - 2
  | 0 => by show (0 : Nat) ≤ _; omega
  | k + 1 => by
    have ih := cnt_in f n h k
    show cntTo f k + (f k).toNat ≤ _
    cases e : f k
    · show cntTo f k + 0 ≤ _; omega
    · have := h k e
      show cntTo f k + 1 ≤ _; omega
theorem cnt_stop (f : Nat → Bool) (n : Nat) (h : ∀ p, n ≤ p → f p = false) : ∀ j, cntTo f (n + j) = cntTo f n
  | 0 => rfl
  | j + 1 => by
    show cntTo f (n + j) + (f (n + j)).toNat = _
    rw [h (n + j) (by omega), cnt_stop f n h j]; rfl
theorem used_in {s : Sto} (hg : SGood s) (p : Nat) (h : s.used p = true) : 2 ≤ p ∧ p < s.n := by
  unfold Sto.used at h
  rcases Bool.or_eq_true_iff.1 h with h | h
  · exact hg.cur.has p h
  · exact hg.kept.has p h
theorem left_le {s : Sto} (hg : SGood s) : cntTo s.used 4096 + 2 ≤ s.n := by
  have := cnt_in s.used s.n (used_in hg) 4096
  have := hg.n4
  have := hg.n5
  omega
theorem left_small {s : Sto} (hg : SGood s) : s.left = s.n - 2 - cntTo s.used s.n := by
  unfold Sto.left
  have h := cnt_stop s.used s.n (fun p hp => by
    cases e : s.used p
    · rfl
    · have := (used_in hg p e).2; omega) (4096 - s.n)
  rw [show s.n + (4096 - s.n) = 4096 by have := hg.n5; omega] at h
  rw [h]
section
variable {B : Nat} {W w w' : World} {sb db : Nat} {y y' : SLay} {s s' : Sto} {yd yd' : Lay} {d d' : Dsk} {m m' : Nat}
theorem Bo.Take (bo : Bo B W w sb db y yd s d m) (A : Option Addr) (c n : Nat) (l : List UInt8) (hr : Rd w w.heap.size A c l) (hl : l.length = n) (hm : m < 90000000) :
    Calls Tryz.prog 127 #[pt sb, .slice A n c] w fun e w' => e = .returned (.tuple #[.int .i64 (numT s d l : Int), .int .i64 (ansT s d l)]) ∧ ∃ y', Bo B W w' sb db y' yd (doT s d l) d (m + 2) ∧ Kf (both y yd) w w' (both y' yd) := by
  have := bo.sm
  refine (Take_any bo.is bo.st.is bo.nn bo.good.n5 A c n l hr hl (by omega)).mono ?_
  rintro e w' ⟨rfl, y1, h1, k1, m1⟩
  exact ⟨rfl, y1, bo.ofIs h1 (doT_good bo.good) (doT_n _ _ _) (by omega) (by omega) k1.kf⟩
theorem Bo.Give (bo : Bo B W w sb db y yd s d m) (r : Int) (hm : m < 90000000) :
    Calls Tryz.prog 98 #[pt sb, .int .i64 r] w fun e w' => e = .returned (.int .i64 (ansG s d r)) ∧ ∃ y', Bo B W w' sb db y' yd (doG s d r) d (m + 2) ∧ Kf (both y yd) w w' (both y' yd) := by
  have := bo.sm
  refine (Give_any bo.is bo.st.is r (by omega)).mono ?_
  rintro e w' ⟨rfl, y1, h1, k1, m1⟩
  exact ⟨rfl, y1, bo.ofIs h1 (doG_good bo.good) (doG_n _ _ _) (by omega) (by omega) k1.kf⟩
theorem Bo.SetRoot (bo : Bo B W w sb db y yd s d m) (r : Int) (hm : m < 90000000) :
    Calls Tryz.prog 96 #[pt sb, .int .i64 r] w fun e w' => e = .returned (.int .i64 (ansR s d r)) ∧ ∃ y', Bo B W w' sb db y' yd (doR s d r) d (m + 2) ∧ Kf (both y yd) w w' (both y' yd) := by
  have := bo.sm
  refine (SetRoot_any bo.is bo.st.is r (by omega)).mono ?_
  rintro e w' ⟨rfl, y1, h1, k1, m1⟩
  exact ⟨rfl, y1, bo.ofIs h1 (doR_good bo.good) (doR_n _ _ _) (by omega) (by omega) k1.kf⟩
theorem Bo.Left (bo : Bo B W w sb db y yd s d m) :
    Calls Tryz.prog 24 #[pt sb] w fun e w' => e = .returned (.int .i64 (if gone s d then 0 else ((s.n - 2 - cntTo s.used s.n : Nat) : Int))) ∧ Below w.heap.size w w' := by
  rw [← left_small bo.good]
  exact Left_any bo.is bo.st.is bo.nn bo.good.n5 (left_le bo.good)
theorem Bo.Read (bo : Bo B W w sb db y yd s d m) (i : Int) :
    Calls Tryz.prog 57 #[pt sb, .int .i64 i] w fun e w' => ∃ v, e = .returned (.tuple #[v, .int .i64 (ansRd s d i)]) ∧ (ansRd s d i = 0 → ∃ l, rdOf s d i.toNat = some l ∧ Mem.Own 5 w' w.heap.size v l) ∧ (ansRd s d i ≠ 0 → v = .slice none 0 0) ∧ Below w.heap.size w w' :=
  Read_any bo.is bo.st.is bo.tab bo.good bo.nn i
theorem Bo.other (bo : Bo B W w sb db y yd s d m) {yd' : Lay} {d' : Dsk} {G : Nat → Prop} (k : Kf yd.foot w w' G) (hy : ∀ j, yd'.foot j → G j) (st : Dk.St B W w' db yd' d' m') (hn : d'.n = d.n) (hm : m ≤ m') : Bo B W w' sb db y yd' s d' m' :=
  (bo.ofSt st hn hm ⟨k.fr, fun j hj hf => k.foot j hj (hy j hf)⟩).1
end
theorem com_live {s : Sto} {d : Dsk} (h : Liv d) (hd : s.dead = false) (hg : SGood s) (hn : s.n = d.n) (hs : s.stamp ≠ 18446744073709551615) (hc : s.changed = true) :
    ansC s d = 0 ∧ stoC s d = s.wrote.begin s.cur.now ∧ diskC s d = (writeD s d).2 := by
  have hg1 : gone s d = false := by unfold gone; rw [hd, h.dead]; rfl
  have h0 := (h.write hg hn hs).1
  have e : comA s d = 0 := by unfold comA; rw [if_pos hc, h0]
  unfold ansC stoC diskC
  rw [hg1]
  simp only [Bool.false_eq_true, if_false]
  rw [e]
  refine ⟨rfl, ?_, ?_⟩
  · rw [if_neg (by decide)]; unfold comS; rw [if_pos hc, if_pos h0]
  · unfold comD; rw [if_pos hc]
end Go.Proofs.YtcjokkjepgfinaaGreatDoor.Sk
