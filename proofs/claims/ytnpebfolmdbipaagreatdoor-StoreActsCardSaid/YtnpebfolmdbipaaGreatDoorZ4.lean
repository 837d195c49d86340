import Derived.Test.YtnpebfolmdbipaaGreatDoorZ2
import Derived.Test.YtnpebfolmdbipaaGreatDoorZ3
import Derived.Test.YtnpebfolmdbipaaGreatDoorRef
import Derived.SliceStrings
import Derived.Test.YtnpebfolmdbipaaGreatDoorOpen
namespace Go.Proofs.YtnpebfolmdbipaaGreatDoor.Sk
set_option maxRecDepth 8000
set_option linter.unusedVariables false
set_option linter.unusedSimpArgs false
open Go.RowKit Mem Go.ChangeMaps
open Dk (cod elem cod_inj elem_mk elem_inv key key_inj wf_key keyed3 MapIs Fr ptr hmf cell_alloc cell_alloc_new zero42 IsD Dsk Lay drewN_cell Kp ref_zero newD newY)
open Fm (gets get_yes get_no tab_low)
/-! ### StoreHeads: what each round leaves, as data -/
def hsta (i : Nat) : Sta := ⟨0, fun p => decide (2 ≤ p ∧ p < 2 + i)⟩
structure HInv (s : Sto) (d : Dsk) (i : Nat) : Prop where
  liv : Liv d
  n : s.n = 30
  dead : s.dead = false
  changed : s.changed = false
  cur : s.cur = Vw.base (hsta i)
  kept : s.kept = hsta i
  force : s.inForce = i % 2
  stamp : s.stamp = i
theorem hsta_zero : hsta 0 = sta0 := by
  unfold hsta sta0
  congr 1
  funext p
  simp
theorem hsta_turn (i : Nat) : (hsta i).turn (2 + i) = hsta (i + 1) := by
  unfold hsta Sta.turn
  simp only
  congr 1
  funext p
  unfold flip
  by_cases e : p = 2 + i
  · subst e; simp
  · rw [if_neg e]
    apply decide_eq_decide.2
    omega
theorem hinv_new : HInv (sto0 30) (newD 30) 0 :=
  ⟨⟨rfl, rfl⟩, rfl, rfl, rfl, by rw [hsta_zero]; rfl, by rw [hsta_zero]; rfl, rfl, rfl⟩
theorem HInv.idle {s : Sto} {d : Dsk} {i : Nat} (h : HInv s d i) : ansC s d = 0 ∧ stoC s d = s.begin s.cur.now ∧ diskC s d = d ∧ HInv (s.begin s.cur.now) d i := by
  have hg1 : gone s d = false := by unfold gone; rw [h.dead, h.liv.dead]; rfl
  have e : comA s d = 0 := by unfold comA; rw [h.changed]; rfl
  have e0 : s.cur.now = hsta i := by rw [h.cur]; rfl
  refine ⟨?_, ?_, ?_, ⟨h.liv, h.n, h.dead, rfl, ?_, ?_, h.force, h.stamp⟩⟩
  · unfold ansC; rw [hg1]; exact e
  · unfold stoC
    rw [hg1, e]
    show comS s d = _
    unfold comS; rw [h.changed]; rfl
  · unfold diskC
    rw [hg1]
    show comD s d = _
    unfold comD; rw [h.changed]; rfl
  · show Vw.base s.cur.now = _; rw [e0]
  · show s.cur.now = _; exact e0
theorem HInv.spare {s : Sto} {d : Dsk} {i : Nat} (h : HInv s d i) (hi : i < 20) : s.spare = 2 + i := by
  refine (spare_is s).one (.inr ⟨by omega, by rw [h.n]; omega, ?_, fun q h1 h2 => ?_⟩)
  · unfold Sto.free
    rw [h.cur, h.kept]
    simp [Vw.base, hsta]
  · unfold Sto.free
    rw [h.cur, h.kept]
    simp [Vw.base, hsta]
    omega
/-- Behind Take. -/
structure HTk (s : Sto) (d : Dsk) (i : Nat) (l : List UInt8) (t : Sto) : Prop where
  ans : ansT s d l = 0
  sto : doT s d l = t
  n : t.n = 30
  dead : t.dead = false
  changed : t.changed = true
  now : t.cur.now = hsta (i + 1)
  fresh : ∀ p, t.cur.fresh p = if p = 2 + i then some l else none
  force : t.inForce = i % 2
  stamp : t.stamp = i
theorem HInv.take {s : Sto} {d : Dsk} {i : Nat} (h : HInv s d i) (hi : i < 20) (l : List UInt8) (hl : l.length ≤ 4011) : HTk s d i l (s.take (2 + i) l) := by
  have hg1 : gone s d = false := by unfold gone; rw [h.dead, h.liv.dead]; rfl
  have hs := h.spare hi
  have e : ansT s d l = 0 := by
    unfold ansT
    rw [hg1, hs, if_neg (by simp), if_neg (by omega), if_neg (by omega)]
  refine ⟨e, ?_, h.n, h.dead, rfl, ?_, fun p => ?_, h.force, h.stamp⟩
  · unfold doT; rw [if_pos e, hs]
  · show s.cur.now.turn (2 + i) = _
    rw [h.cur]; exact hsta_turn i
  · show s.cur.fresh.put (2 + i) (some l) p = _
    rw [h.cur]; rfl
/-- Behind the Commit of it. -/
structure HCm (d : Dsk) (i : Nat) (t : Sto) (d' : Dsk) : Prop where
  inv : HInv (t.wrote.begin t.cur.now) d' (i + 1)
  own : d'.page (1 - i % 2) = Frm.frame (1 - i % 2) 1 (i + 1) (headOf (hsta (i + 1)) 30)
  other : d'.page (i % 2) = d.page (i % 2)
theorem HTk.commit {s t : Sto} {d : Dsk} {i : Nat} {l : List UInt8} (k : HTk s d i l t) (hL : Liv d) (hg : SGood t) (hn : d.n = 30) (hi : i < 20) : HCm d i t (writeD t d).2 := by
  have hw := hL.write hg (k.n.trans hn.symm) (by rw [k.stamp]; omega)
  have hh : t.head = 1 - i % 2 := by unfold Sto.head; rw [k.force]
  refine ⟨⟨hw.2.1, k.n, k.dead, rfl, ?_, k.now, ?_, ?_⟩, ?_, ?_⟩
  · show Vw.base t.cur.now = _; rw [k.now]
  · show t.head = _; rw [hh]; omega
  · show t.stamp + 1 = _; rw [k.stamp]
  · rw [hw.2.2.2, if_pos hh.symm]
    unfold headF
    rw [hh, k.stamp, k.now, k.n]
  · have e1 : ¬ i % 2 = t.head := by rw [hh]; omega
    have e2 : ¬ i % 2 = 2 + i := by omega
    rw [hw.2.2.2, if_neg e1, k.fresh, if_neg e2]
    rfl
theorem HCm.gets {d d' : Dsk} {i : Nat} {t : Sto} (h : HCm d i t d') (hi : i < 20) : gets (d'.page (1 - i % 2)) ((1 - i % 2 : Nat) : Int) 1 ∧ Frm.newest (d'.page (1 - i % 2)) = i + 1 ∧ Frm.held (d'.page (1 - i % 2)) = headOf (hsta (i + 1)) 30 := by
  have hl : (headOf (hsta (i + 1)) 30).length ≤ 4011 := by rw [headOf_len]; omega
  rw [h.own]
  refine ⟨⟨by omega, ?_⟩, Frm.newest_frame _ _ _ _ hl (by omega), Frm.held_frame _ _ _ _ hl⟩
  rw [Int.toNat_natCast]
  exact (Frm.whole_frame _ 1 (i + 1) _ 1 _ hl (by omega) (by omega) (by omega) (by omega) (by omega)).2 ⟨rfl, rfl⟩
section
variable {B : Nat} {W w w' : World} {sb db : Nat} {y y' : SLay} {s s' : Sto} {yd yd' : Lay} {d d' : Dsk} {m m' : Nat}
theorem hC0 (bo : Bo B W w sb db y yd s d m) {i : Nat} (h : HInv s d i) (hm : m < 90000000) :
    Calls Tryz.prog 23 #[pt sb] w fun e w' => e = .returned (.int .i64 0) ∧ ∃ y' yd' s', Bo B W w' sb db y' yd' s' d (m + 10000) ∧ HInv s' d i ∧ Kf (both y yd) w w' (both y' yd') := by
  have e := h.idle
  refine (Commit_any bo (by omega)).mono ?_
  rw [e.1, e.2.1, e.2.2.1]
  rintro e1 w' ⟨rfl, y1, yd1, b1, k1⟩
  exact ⟨rfl, y1, yd1, _, b1, e.2.2.2, k1⟩
/-- Take of a text. -/
theorem hTk (bo : Bo B W w sb db y yd s d m) {i : Nat} (h : HInv s d i) (hi : i < 20) (A : Option Addr) (c n : Nat) (l : List UInt8) (hr : Rd w w.heap.size A c l) (hl : l.length = n) (hn : n ≤ 4011) (hm : m < 90000000) :
    Calls Tryz.prog 12 #[pt sb, .slice A n c] w fun e w' => ∃ p, e = .returned (.tuple #[.int .i64 p, .int .i64 0]) ∧ ∃ y' t, Bo B W w' sb db y' yd t d (m + 2) ∧ HTk s d i l t ∧ Kf (both y yd) w w' (both y' yd) := by
  have k := h.take hi l (by omega)
  refine (bo.Take A c n l hr hl hm).mono ?_
  rw [k.ans, k.sto]
  rintro e1 w' ⟨rfl, y1, b1, k1⟩
  exact ⟨_, rfl, y1, _, b1, k, k1⟩
theorem hC1 (bo : Bo B W w sb db y yd s' d m) {i : Nat} {l : List UInt8} (k : HTk s d i l s') (hL : Liv d) (hi : i < 20) (hm : m < 90000000) :
    Calls Tryz.prog 23 #[pt sb] w fun e w' => e = .returned (.int .i64 0) ∧ ∃ y' yd' t d', Bo B W w' sb db y' yd' t d' (m + 10000) ∧ HInv t d' (i + 1) ∧ HCm d i s' d' ∧ Kf (both y yd) w w' (both y' yd') := by
  refine (gC bo hL k.dead (by rw [k.stamp]; omega) k.changed hm).mono ?_
  rintro e1 w' ⟨rfl, y1, yd1, b1, k1⟩
  have c := k.commit hL bo.good (bo.nn ▸ k.n) hi
  exact ⟨rfl, y1, yd1, _, _, b1, c.inv, c, k1⟩
end
end Go.Proofs.YtnpebfolmdbipaaGreatDoor.Sk

namespace Go.Proofs.YtnpebfolmdbipaaGreatDoor.Sk
set_option maxRecDepth 8000
set_option linter.unusedVariables false
set_option linter.unusedSimpArgs false
open Go.RowKit Mem Go.ChangeMaps
open Dk (cod elem cod_inj elem_mk elem_inv key key_inj wf_key keyed3 MapIs Fr ptr hmf cell_alloc cell_alloc_new zero42 IsD Dsk Lay drewN_cell Kp ref_zero newD newY)
open Fm (gets get_yes get_no tab_low)
/-- Strings that came in. -/
structure StrsAt (w : World) (A : Option Addr) (len cap : Nat) (f : Nat → List UInt8) : Prop where
  le : len ≤ cap
  max : cap ≤ maxLen
  at_ : 0 < len → ∃ b o, A = some ⟨b, o, none⟩ ∧ b < w.heap.size ∧ ∀ i, i < len → w.cell? ⟨b, o + i, none⟩ = some (.string (str (f i)))
/-- A page that was read, in a row of its own. -/
structure Pg (w : World) (F : Nat → Prop) (g c : Nat) (l : List UInt8) : Prop where
  rd : Rd w w.heap.size (some ⟨g, 0, none⟩) c l
  len : l.length = 4096
  free : ¬ F g
  lt : g < w.heap.size
theorem Pg.below {w w' : World} {F : Nat → Prop} {g c : Nat} {l : List UInt8} (h : Pg w F g c l) (hb : Below w.heap.size w w') : Pg w' F g c l :=
  ⟨Rd.more (h.rd.below hb) hb.size, h.len, h.free, Nat.lt_of_lt_of_le h.lt hb.size⟩
theorem Pg.kf {w w' : World} {F G : Nat → Prop} {g c : Nat} {l : List UInt8} (h : Pg w F g c l) (k : Kf F w w' G) : Pg w' G g c l :=
  ⟨Rd.more (Dk.rd_of_block h.rd fun a e => by cases e; exact (k.free h.lt h.free).2) k.fr.size, h.len, (k.free h.lt h.free).1, Nat.lt_of_lt_of_le h.lt k.fr.size⟩
theorem Pg.conv {w : World} {F : Nat → Prop} {g c : Nat} {l : List UInt8} (h : Pg w F g c l) : (convert 36 9 (.slice (some ⟨g, 0, none⟩) 4096 c)).run Tryz.prog w = .ok (.string (str l)) w := by
  have := run_str_rd w h.rd
  rwa [h.len] at this
section
variable {B : Nat} {W w w' : World} {sb db : Nat} {y y' : SLay} {s s' : Sto} {yd yd' : Lay} {d d' : Dsk} {m m' : Nat}
theorem hRd (bo : Bo B W w sb db y yd s d m) (hL : Liv d) (i : Nat) (hi : i < d.n) :
    Calls Tryz.prog 37 #[ptr db, .int .i64 (i : Int)] w fun e w' => ∃ g c, e = .returned (.tuple #[.slice (some ⟨g, 0, none⟩) 4096 c, .int .i64 0]) ∧ Pg w' (both y yd) g c (d.page i) ∧ Below w.heap.size w w' := by
  have hr : d.ref i = 0 := (ref_zero d i).2 ⟨hL.dead, by omega, by omega⟩
  have hpl := page_len bo.st.is i hi
  refine (bo.st.read i).mono ?_
  rintro e w' ⟨v, rfl, ho, _, _, hb⟩
  have ho := ho hr
  rw [Int.toNat_natCast] at ho
  obtain ⟨g, c, rfl, hg, hlt, hrd, _, _⟩ := own_block ho (by omega)
  rw [hr, hpl]
  exact ⟨g, c, rfl, ⟨hrd, hpl, bo.fresh hg, hlt⟩, hb⟩
/-- Get of the head that was just written. -/
theorem hGet (bo : Bo B W w sb db y yd s d' m) {i : Nat} {t : Sto} (h : HCm d i t d') (hi : i < 20) {g c : Nat} (p : Pg w (both y yd) g c (d'.page (1 - i % 2))) :
    Calls Tryz.prog 38 #[.slice (some ⟨g, 0, none⟩) 4096 c, .int .i64 ((1 - i % 2 : Nat) : Int), .int .u8 1] w fun e w' => ∃ v, e = .returned (.tuple #[v, .int .u64 ((i + 1 : Nat) : Int), .bool true]) ∧ Below w.heap.size w w' := by
  have k := h.gets hi
  refine (get_yes (k := 1) bo.tab p.rd p.len (by decide) k.1 (i + 1) k.2.1 _ k.2.2).mono ?_
  rintro e w' ⟨v, rfl, _, hb⟩
  exact ⟨v, rfl, hb⟩
end
end Go.Proofs.YtnpebfolmdbipaaGreatDoor.Sk

namespace Go.Proofs.YtnpebfolmdbipaaGreatDoor.Sk
set_option maxRecDepth 8000
set_option linter.unusedVariables false
set_option linter.unusedSimpArgs false
open Go.RowKit Mem Go.ChangeMaps
open Dk (cod elem cod_inj elem_mk elem_inv key key_inj wf_key keyed3 MapIs Fr ptr hmf cell_alloc cell_alloc_new zero42 IsD Dsk Lay drewN_cell Kp ref_zero newD newY)
open Fm (gets get_yes get_no tab_low)
open Ref (to_bytes)
section
variable {B : Nat} {W w w' : World} {sb db : Nat} {y y' : SLay} {s s' : Sto} {yd yd' : Lay} {d d' : Dsk} {m m' : Nat}
theorem hRd0 (bo : Bo B W w sb db y yd s d m) (hL : Liv d) (hn : s.n = 30) :
    Calls Tryz.prog 37 #[ptr db, .int .i64 0] w fun e w' => ∃ g c, e = .returned (.tuple #[.slice (some ⟨g, 0, none⟩) 4096 c, .int .i64 0]) ∧ Pg w' (both y yd) g c (d.page 0) ∧ Below w.heap.size w w' := hRd bo hL 0 (by have := bo.nn; omega)
theorem hRd1 (bo : Bo B W w sb db y yd s d m) (hL : Liv d) (hn : s.n = 30) :
    Calls Tryz.prog 37 #[ptr db, .int .i64 1] w fun e w' => ∃ g c, e = .returned (.tuple #[.slice (some ⟨g, 0, none⟩) 4096 c, .int .i64 0]) ∧ Pg w' (both y yd) g c (d.page 1) ∧ Below w.heap.size w w' := hRd bo hL 1 (by have := bo.nn; omega)
theorem hGetE (bo : Bo B W w sb db y yd s d' m) {i : Nat} {t : Sto} (h : HCm d i t d') (hi : i < 20) (hq : i % 2 = 0) {g c : Nat} (p : Pg w (both y yd) g c (d'.page 1)) :
    Calls Tryz.prog 38 #[.slice (some ⟨g, 0, none⟩) 4096 c, .int .i64 1, .int .u8 1] w fun e w' => ∃ v, e = .returned (.tuple #[v, .int .u64 ((i + 1 : Nat) : Int), .bool true]) ∧ Below w.heap.size w w' := by
  have := hGet bo h hi (by rw [hq]; exact p)
  rw [hq] at this
  exact this
theorem hGetO (bo : Bo B W w sb db y yd s d' m) {i : Nat} {t : Sto} (h : HCm d i t d') (hi : i < 20) (hq : i % 2 = 1) {g c : Nat} (p : Pg w (both y yd) g c (d'.page 0)) :
    Calls Tryz.prog 38 #[.slice (some ⟨g, 0, none⟩) 4096 c, .int .i64 0, .int .u8 1] w fun e w' => ∃ v, e = .returned (.tuple #[v, .int .u64 ((i + 1 : Nat) : Int), .bool true]) ∧ Below w.heap.size w w' := by
  have := hGet bo h hi (by rw [hq]; exact p)
  rw [hq] at this
  exact this
end
set_option maxHeartbeats 4000000 in
theorem storeHeads_walk (A : Option Addr) (len cap : Nat) (f : Nat → List UInt8) (w : World) (hT : Tab w) (hS : StrsAt w A len cap f) : Calls Tryz.prog 6 #[.slice A len cap] w fun e w' => e = .returned (.bool true) ∧ Below w.heap.size w w' := by
  have MA := Lib.hid (made_any 30 w hT (by omega) (by omega))
  have HS := Lib.hid hS
  clear hT hS
  by_cases h20 : len ≤ 20
  · have h20' : ¬ (20 < (len : Int)) := by omega
    have H20 := Lib.hid h20
    clear h20
    go_enter Tryz.func6, Tryz.ntmps6
    go_wp2_with (go_at_call 10; refine MA.out.mono ?_; rintro e w0 ⟨sb, db, y0, yd0, rfl, b0⟩; have B0 := Lib.hid b0; clear b0)
    clear MA
    go_loopw [5, 6] (fun nv v wr => ∃ (k : Nat), k ≤ len ∧ v = .int .i64 (k : Int) ∧ nv = .int .u64 (k : Int) ∧ Hid (∃ y yd s d, Bo w.heap.size w wr sb db y yd s d (20002 * k) ∧ HInv s d k)) (fun _ v _ => len - (intOf v).toNat)
    case atStart => exact ⟨0, by omega, rfl, rfl, Lib.hid ⟨y0, yd0, _, _, B0.out, hinv_new⟩⟩
    case round =>
      obtain ⟨k, hk, rfl, rfl, hR⟩ := hrel
      by_cases hlt : k < len
      · have hlt' : (k : Int) < (len : Int) := by omega
        have K20 := Lib.hid (show k < 20 by have := H20.out; omega)
        obtain ⟨y, yd, s, d, bo, hv⟩ := hR.out
        obtain ⟨b, o, rfl, hb, hc⟩ := HS.out.at_ (by omega)
        have ck : wr.cell? ⟨b, o + k, none⟩ = some (.string (str (f k))) := (bo.st.bel.cell hb).trans (hc k hlt)
        have BO := Lib.hid bo
        have HV := Lib.hid hv
        have HC := Lib.hid (fun (V : World) (hV : Below w.heap.size w V) => (hV.cell hb).trans (hc k hlt))
        have LT := Lib.hid hlt
        have hsz : (str (f k)).size = (f k).length := Ref.str_size _
        clear bo hv hb hc hR hk
        by_cases h21 : (f k).length ≤ 20
        · have h21' : ¬ (20 < ((f k).length : Int)) := by omega
          have hle : ¬ (((k + 1 : Nat) : Int) ≤ (k : Int)) := by omega
          have H21 := Lib.hid h21
          clear h21
          have hpar := Nat.mod_two_eq_zero_or_one k
          rcases hpar with hp | hp
          · have hm1 : Int.tmod (k : Int) 2 = 0 := by rw [Int.tmod_eq_emod_of_nonneg (by omega)]; omega
            have hm2 : (k : Int) % 2 = 0 := by omega
            have HP := Lib.hid hp
            clear hp
            go_wp2_with (first
              | (go_at_call 38; refine (hGetE B9.out C9.out K20.out HP.out P6.out).mono ?_; rintro e wg ⟨vg, rfl, bg⟩; have B10 := Lib.hid (B9.out.keep bg); have eq := C9.out.other; rw [HP.out] at eq; have ka := (P5.out.below bg).conv; rw [eq] at ka; have kb := (Pa9.out.below bg).conv; clear bg eq)
              | (go_at_call 37; refine (hRd1 B8.out I8.out.liv I8.out.n).mono ?_; rintro e w9 ⟨g6, c6, rfl, p6, b9⟩; have B9 := Lib.hid (B8.out.keep b9); have C9 := Lib.hid C7.out; have P6 := Lib.hid p6; have P5 := Lib.hid (P58.out.below b9); have Pa9 := Lib.hid (Pa8.out.below b9); have Pb9 := Lib.hid (Pb8.out.below b9); clear p6 b9)
              | (go_at_call 37; refine (hRd0 B7.out I7.out.liv I7.out.n).mono ?_; rintro e w8 ⟨g5, c5, rfl, p5, b8⟩; have B8 := Lib.hid (B7.out.keep b8); have I8 := Lib.hid I7.out; have P58 := Lib.hid p5; have Pa8 := Lib.hid (Pa7.out.below b8); have Pb8 := Lib.hid (Pb7.out.below b8); clear p5 b8)
              | (go_at_call 23; refine (hC1 B6.out T6.out HV.out.liv K20.out (by omega)).mono ?_; rintro e w7 ⟨rfl, y7, yd7, t7, d7, b7, i7, c7, k7⟩; have B7 := Lib.hid b7; have I7 := Lib.hid i7; have C7 := Lib.hid c7; have Pa7 := Lib.hid (Pa6.out.kf k7); have Pb7 := Lib.hid (Pb6.out.kf k7); clear b7 i7 c7 k7)
              | (go_at_call 12; refine (hTk (B5.out.keep BT.out) I5.out K20.out _ _ _ (f k) RT.out rfl (by have := H21.out; omega) (by omega)).mono ?_; rintro e w6 ⟨pn, rfl, y6, t6, b6, x6, k6⟩; have B6 := Lib.hid b6; have T6 := Lib.hid x6; have Pa6 := Lib.hid ((Pa5.out.below BT.out).kf k6); have Pb6 := Lib.hid ((Pb5.out.below BT.out).kf k6); clear b6 x6 k6)
              | (go_at_call 37; refine (hRd1 B4.out I4.out.liv I4.out.n).mono ?_; rintro e w5 ⟨g4, c4, rfl, p4, b5⟩; have B5 := Lib.hid (B4.out.keep b5); have I5 := Lib.hid I4.out; have k3 := (P3.out.below b5).conv; have k4 := p4.conv; have k1 := (Pa4.out.below b5).conv; have k2 := (Pb4.out.below b5).conv; have Pa5 := Lib.hid (Pa4.out.below b5); have Pb5 := Lib.hid (Pb4.out.below b5); obtain ⟨cx, vx, kt, rt, bt⟩ := to_bytes (f k) w5 _ rfl (by have := H21.out; omega); have ck5 := HC.out w5 B5.out.st.bel; have RT := Lib.hid rt; have BT := Lib.hid bt; clear p4 b5 rt bt)
              | (go_at_call 37; refine (hRd0 B3.out I3.out.liv I3.out.n).mono ?_; rintro e w4 ⟨g3, c3, rfl, p3, b4⟩; have B4 := Lib.hid (B3.out.keep b4); have I4 := Lib.hid I3.out; have P3 := Lib.hid p3; have Pa4 := Lib.hid (Pa3.out.below b4); have Pb4 := Lib.hid (Pb3.out.below b4); clear p3 b4)
              | (go_at_call 23; refine (hC0 B2.out HV.out (by have := K20.out; omega)).mono ?_; rintro e w3 ⟨rfl, y3, yd3, s3, b3, i3, k3⟩; have B3 := Lib.hid b3; have I3 := Lib.hid i3; have Pa3 := Lib.hid (Pa2.out.kf k3); have Pb3 := Lib.hid (Pb2.out.kf k3); clear b3 i3 k3)
              | (go_at_call 37; refine (hRd1 B1.out HV.out.liv HV.out.n).mono ?_; rintro e w2 ⟨g2, c2, rfl, p2, b2⟩; have B2 := Lib.hid (B1.out.keep b2); have Pa2 := Lib.hid (Pa1.out.below b2); have Pb2 := Lib.hid p2; clear p2 b2)
              | (go_at_call 37; refine (hRd0 BO.out HV.out.liv HV.out.n).mono ?_; rintro e w1 ⟨g1, c1, rfl, p1, b1⟩; have B1 := Lib.hid (BO.out.keep b1); have Pa1 := Lib.hid p1; clear p1 b1))
            go_roundw
            case rel => exact ⟨k + 1, by have := LT.out; omega, by go_num, rfl, Lib.hid ⟨_, _, _, _, B10.out.mono (by omega), I8.out⟩⟩
            case measure => have := LT.out; simp [intOf]; omega
          · have hm1 : Int.tmod (k : Int) 2 = 1 := by rw [Int.tmod_eq_emod_of_nonneg (by omega)]; omega
            have hm2 : (k : Int) % 2 = 1 := by omega
            have HP := Lib.hid hp
            clear hp
            go_wp2_with (first
              | (go_at_call 38; refine (hGetO B9.out C9.out K20.out HP.out P5.out).mono ?_; rintro e wg ⟨vg, rfl, bg⟩; have B10 := Lib.hid (B9.out.keep bg); have eq := C9.out.other; rw [HP.out] at eq; have ka := (P6.out.below bg).conv; rw [eq] at ka; have kb := (Pb9.out.below bg).conv; clear bg eq)
              | (go_at_call 37; refine (hRd1 B8.out I8.out.liv I8.out.n).mono ?_; rintro e w9 ⟨g6, c6, rfl, p6, b9⟩; have B9 := Lib.hid (B8.out.keep b9); have C9 := Lib.hid C7.out; have P6 := Lib.hid p6; have P5 := Lib.hid (P58.out.below b9); have Pa9 := Lib.hid (Pa8.out.below b9); have Pb9 := Lib.hid (Pb8.out.below b9); clear p6 b9)
              | (go_at_call 37; refine (hRd0 B7.out I7.out.liv I7.out.n).mono ?_; rintro e w8 ⟨g5, c5, rfl, p5, b8⟩; have B8 := Lib.hid (B7.out.keep b8); have I8 := Lib.hid I7.out; have P58 := Lib.hid p5; have Pa8 := Lib.hid (Pa7.out.below b8); have Pb8 := Lib.hid (Pb7.out.below b8); clear p5 b8)
              | (go_at_call 23; refine (hC1 B6.out T6.out HV.out.liv K20.out (by omega)).mono ?_; rintro e w7 ⟨rfl, y7, yd7, t7, d7, b7, i7, c7, k7⟩; have B7 := Lib.hid b7; have I7 := Lib.hid i7; have C7 := Lib.hid c7; have Pa7 := Lib.hid (Pa6.out.kf k7); have Pb7 := Lib.hid (Pb6.out.kf k7); clear b7 i7 c7 k7)
              | (go_at_call 12; refine (hTk (B5.out.keep BT.out) I5.out K20.out _ _ _ (f k) RT.out rfl (by have := H21.out; omega) (by omega)).mono ?_; rintro e w6 ⟨pn, rfl, y6, t6, b6, x6, k6⟩; have B6 := Lib.hid b6; have T6 := Lib.hid x6; have Pa6 := Lib.hid ((Pa5.out.below BT.out).kf k6); have Pb6 := Lib.hid ((Pb5.out.below BT.out).kf k6); clear b6 x6 k6)
              | (go_at_call 37; refine (hRd1 B4.out I4.out.liv I4.out.n).mono ?_; rintro e w5 ⟨g4, c4, rfl, p4, b5⟩; have B5 := Lib.hid (B4.out.keep b5); have I5 := Lib.hid I4.out; have k3 := (P3.out.below b5).conv; have k4 := p4.conv; have k1 := (Pa4.out.below b5).conv; have k2 := (Pb4.out.below b5).conv; have Pa5 := Lib.hid (Pa4.out.below b5); have Pb5 := Lib.hid (Pb4.out.below b5); obtain ⟨cx, vx, kt, rt, bt⟩ := to_bytes (f k) w5 _ rfl (by have := H21.out; omega); have ck5 := HC.out w5 B5.out.st.bel; have RT := Lib.hid rt; have BT := Lib.hid bt; clear p4 b5 rt bt)
              | (go_at_call 37; refine (hRd0 B3.out I3.out.liv I3.out.n).mono ?_; rintro e w4 ⟨g3, c3, rfl, p3, b4⟩; have B4 := Lib.hid (B3.out.keep b4); have I4 := Lib.hid I3.out; have P3 := Lib.hid p3; have Pa4 := Lib.hid (Pa3.out.below b4); have Pb4 := Lib.hid (Pb3.out.below b4); clear p3 b4)
              | (go_at_call 23; refine (hC0 B2.out HV.out (by have := K20.out; omega)).mono ?_; rintro e w3 ⟨rfl, y3, yd3, s3, b3, i3, k3⟩; have B3 := Lib.hid b3; have I3 := Lib.hid i3; have Pa3 := Lib.hid (Pa2.out.kf k3); have Pb3 := Lib.hid (Pb2.out.kf k3); clear b3 i3 k3)
              | (go_at_call 37; refine (hRd1 B1.out HV.out.liv HV.out.n).mono ?_; rintro e w2 ⟨g2, c2, rfl, p2, b2⟩; have B2 := Lib.hid (B1.out.keep b2); have Pa2 := Lib.hid (Pa1.out.below b2); have Pb2 := Lib.hid p2; clear p2 b2)
              | (go_at_call 37; refine (hRd0 BO.out HV.out.liv HV.out.n).mono ?_; rintro e w1 ⟨g1, c1, rfl, p1, b1⟩; have B1 := Lib.hid (BO.out.keep b1); have Pa1 := Lib.hid p1; clear p1 b1))
            go_roundw
            case rel => exact ⟨k + 1, by have := LT.out; omega, by go_num, rfl, Lib.hid ⟨_, _, _, _, B10.out.mono (by omega), I8.out⟩⟩
            case measure => have := LT.out; simp [intOf]; omega
        · have h21' : 20 < ((f k).length : Int) := by omega
          go_wp2
          go_ret
          exact ⟨rfl, BO.out.st.bel⟩
      · have hlt' : ¬ ((k : Int) < (len : Int)) := by omega
        obtain ⟨y, yd, s, d, bo, hv⟩ := hR.out
        have BO := Lib.hid bo
        clear bo hv
        go_wp2_with (go_at_call 30; refine (goes_any _ BO.out.tab).mono ?_; rintro e w20 ⟨rfl, b20⟩; have B20 := Lib.hid (BO.out.keep b20); clear b20)
        go_ret
        exact ⟨rfl, B20.out.st.bel⟩
  · have h20' : 20 < (len : Int) := by omega
    go_enter Tryz.func6, Tryz.ntmps6
    go_wp2
    go_ret
    exact ⟨rfl, Below.refl _ _⟩
end Go.Proofs.YtnpebfolmdbipaaGreatDoor.Sk

namespace Go.Proofs.YtnpebfolmdbipaaGreatDoor.Sk
open Go.RowKit Go.ChangeShapes Go.WideShapes Go.Deep Mem
section
variable {H : Type} {enc : TypeId × Value → H} {P : Program} {w : World} {base : Nat} {spare : Nat → Bool} {held : Bool}
theorem str_back (s : ByteArray) : str s.toList = s := by
  rw [ByteArray.toList_eq]
  simp [str]
/-- A []string that came in. -/
theorem strs_of_trod {t e : TypeId} {A : Option Addr} {len cap : Nat} {d : DataW H} {p : List MemPlace} (ht : P.underlying t = some (.slice e)) (he : P.underlying e = some .string) (hc : P.cellsOf e = 1)
    (h : DataW.Trod enc P w base spare held t (.slice A len cap) d p) : ∃ f : Nat → List UInt8, StrsAt w A len cap f := by
  obtain ⟨fuel, hf⟩ := h
  rcases open_strings ht he hc hf with ⟨hcs, _⟩ | ⟨a, len', cap', ss, hcs, _, hl, hm, hlen, _, hat, _⟩
  · simp [Value.cells] at hcs
    obtain ⟨rfl, rfl, rfl⟩ := hcs
    exact ⟨fun _ => [], Nat.le_refl _, by unfold maxLen; omega, fun h => by omega⟩
  · simp [Value.cells] at hcs
    obtain ⟨rfl, rfl, rfl⟩ := hcs
    have hle : len ≤ ss.length := by rw [hlen]; split <;> omega
    refine ⟨fun i => (ss.getD i ByteArray.empty).toList, hl, hm, fun hp => ?_⟩
    obtain ⟨b, o, sp⟩ := a
    have h0 := hat 0 (by omega)
    have hsp : sp = none := by simpa [Addr.add] using World.cell?_spot h0
    subst hsp
    refine ⟨b, o, rfl, by rw [Mem.add_plain] at h0; exact block_lt h0, fun i hi => ?_⟩
    have h1 := hat i (by omega)
    rw [Mem.add_plain] at h1
    rw [h1, str_back]
end
end Go.Proofs.YtnpebfolmdbipaaGreatDoor.Sk

