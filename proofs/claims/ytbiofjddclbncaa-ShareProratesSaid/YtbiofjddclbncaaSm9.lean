import Derived.Test.YtbiofjddclbncaaSm8
import Derived.Test.YtbiofjddclbncaaSr2
namespace Go.Proofs.Ytbiofjddclbncaa.Sr
set_option linter.unusedVariables false
set_option linter.unusedSimpArgs false
open Go.RowKit Mem Mo
theorem ityI : IntTy Try.prog 40 3 := ⟨Try.underlying40, Try.underlying3, by
  have h : (Try.prog.info? 3).map (fun i => (i.zero, i.size, i.bytes)) = some (some (.int .i64 0), 1, 8) := by kernel_rfl
  exact info_parts h⟩
theorem ityL : IntTy Try.prog 22 2 := ⟨Try.underlying22, Try.underlying2, by
  have h : (Try.prog.info? 2).map (fun i => (i.zero, i.size, i.bytes)) = some (some (.int .i64 0), 1, 8) := by kernel_rfl
  exact info_parts h⟩
theorem make_any {t e : TypeId} (T : IntTy Try.prog t e) (m : Nat) (hm : m ≤ 1000) : ∀ W, (Instr.makeSlice t (.int .i64 (m : Int)) (.int .i64 (m : Int))).run Try.prog W = .ok (.slice (some ⟨W.heap.size, 0, none⟩) m m) (W.alloc (.cells (Array.replicate m (.int .i64 0)) e)) := by
  intro W
  obtain ⟨i0, hi, hz0, hz1, hz2⟩ := T.info
  have hr := run_make (P := Try.prog) W t e i0 _ T.under hi hz0 .i64 .i64 (m : Int) (m : Int) (by omega) (by omega) (by rw [hz2]; omega) (by omega)
  rw [hz1] at hr
  have e : madeCells (Value.int .i64 0).cells m = Array.replicate m (.int .i64 0) := by
    apply Array.toList_inj.1
    rw [show (Value.int .i64 0).cells = #[Value.int .i64 0] from rfl, toList_madeCells_one]; simp
  exact hr.trans (by simp [e])
/-- A row of one's own: f k at place k. -/
structure RowZ (W : World) (g n : Nat) (f : Nat → Int) : Prop where
  lt : g < W.heap.size
  c : ∀ k, k < n → W.cell? ⟨g, k, none⟩ = some (.int .i64 (f k))
  z : ∀ i, W.frozen? ⟨g, i, none⟩ = false
theorem RowZ.at {W : World} {g n : Nat} {f : Nat → Int} {S : Nat → Nat} (h : RowZ W g n f) (e : ∀ k, k < n → f k = (S k : Nat)) : RowAt W g n S := ⟨h.lt, fun k hk => by rw [h.c k hk, e k hk], h.z⟩
theorem RowZ.congr {W : World} {g n : Nat} {f f' : Nat → Int} (h : RowZ W g n f) (e : ∀ k, k < n → f k = f' k) : RowZ W g n f' := ⟨h.lt, fun k hk => by rw [h.c k hk, e k hk], h.z⟩
theorem RowZ.new (W : World) (m : Nat) (e : TypeId) : RowZ (W.alloc (.cells (Array.replicate m (.int .i64 0)) e)) W.heap.size m (fun _ => 0) :=
  ⟨by simp, fun k hk => by rw [cell_of_row _ _ _ _ _ _ (heap_alloc_new W _)]; simp [hk], fun i => by simp [go_sem]⟩
theorem RowZ.bel {W W' : World} {g n : Nat} {f : Nat → Int} (h : RowZ W g n f) (hb : Below W.heap.size W W') : RowZ W' g n f :=
  have e := hb.block g h.lt
  ⟨Nat.lt_of_lt_of_le h.lt hb.size, fun k hk => (World.cell?_of_block e).trans (h.c k hk), fun i => (World.frozen?_of_block (w := W) e).trans (h.z i)⟩
theorem RowZ.below {W W' : World} {B g n : Nat} {f : Nat → Int} (h : RowZ W g n f) (hg : g < B) (hb : Below B W W') : RowZ W' g n f :=
  have e := hb.block g hg
  ⟨Nat.lt_of_lt_of_le h.lt hb.size, fun k hk => (World.cell?_of_block e).trans (h.c k hk), fun i => (World.frozen?_of_block (w := W) e).trans (h.z i)⟩
theorem RowZ.drewN {W : World} {g n : Nat} {f : Nat → Int} (h : RowZ W g n f) (m : Nat) : RowZ (W.drewN m) g n f := ⟨h.lt, h.c, h.z⟩
theorem RowZ.set {W : World} {g n : Nat} {f : Nat → Int} (h : RowZ W g n f) {i : Nat} (hi : i < n) (v : Int) : RowZ (W.setCell ⟨g, i, none⟩ (.int .i64 v)) g n (fun k => if k = i then v else f k) :=
  ⟨by rw [size_setCell]; exact h.lt, fun k hk => by
    by_cases e : k = i
    · subst e
      rw [if_pos rfl]
      exact World.cell?_setCell_same _ _ _ (h.c k hk)
    · rw [if_neg e]
      exact (World.cell?_setCell_other _ _ _ _ (fun e2 => e (by injection e2 with _ e3 _; exact e3.symm))).trans (h.c k hk), fun a => (World.frozen?_setCell _ _ _ _).trans (h.z a)⟩
theorem RowZ.other {W : World} {g n : Nat} {f : Nat → Int} (h : RowZ W g n f) {p : Addr} (hp : p.block ≠ g) (v : Value) : RowZ (W.setCell p v) g n f :=
  ⟨by rw [size_setCell]; exact h.lt, fun k hk => (World.cell?_setCell_other _ _ _ _ (fun e2 => hp (by rw [e2]))).trans (h.c k hk), fun a => (World.frozen?_setCell _ _ _ _).trans (h.z a)⟩
theorem Ex.bel {g : Nat} {w W : World} (h : Ex g w W) {w0 : World} {B : Nat} (hb : Below B w0 w) (hg : B ≤ g) (hB : B ≤ w.heap.size) : Below B w0 W :=
  ⟨h.os.trans hb.os, h.tape.trans hb.tape, h.out.trans hb.output, Nat.le_trans hb.size h.size, fun k hk => (h.blk k (by omega) (by omega)).trans (hb.block k hk)⟩

theorem sortStable_any (g n c bx rb ro c2 : Nat) (r : Nat → Int) (W : World) (hR : RowAt W g n (fun k => k)) (hC : Cs W g n bx rb ro c2 r) (hn : n ≤ c) (hn1 : n ≤ 100) :
    Calls Try.prog 31 #[.slice (some ⟨g, 0, none⟩) n c, .func (.func 32) #[] #[.pointer (some ⟨bx, 0, none⟩)]] W fun e w' => e = .returned (.tuple #[]) ∧ ∃ T, RowAt w' g n T ∧ (List.range n).map T = srt r n ∧ (∀ k, k < n → T k < n) ∧ Ex g W w' := by
  have C := Lib.hid (stable_any g n c bx rb ro c2 r W hR hC hn hn1)
  clear hR hC hn1
  go_enter Try.func31, Try.ntmps31
  go_wp2_with fail
  refine C.out.mono ?_
  rintro e w1 ⟨rfl, h⟩
  have H := Lib.hid h
  clear h
  go_wp2_with fail
  go_end0
  exact ⟨rfl, H.out⟩

set_option maxHeartbeats 1000000 in
theorem greatest_any (rb ro c2 n : Nat) (r : Nat → Int) (w : World) (hrb : rb < w.heap.size) (hr : ∀ k, k < n → w.cell? ⟨rb, ro + k, none⟩ = some (.int .i64 (r k))) (hn1 : n ≤ 100) :
    Calls Try.prog 19 #[.slice (some ⟨rb, ro, none⟩) n c2] w fun e w' => ∃ g T, e = .returned (.slice (some ⟨g, 0, none⟩) n n) ∧ (w.heap.size ≤ g ∧ RowAt w' g n T) ∧ ((List.range n).map T = srt r n ∧ ∀ k, k < n → T k < n) ∧ Below w.heap.size w w' := by
  have hmk := make_any ityI n (by omega)
  have HRB := Lib.hid hrb
  have HRr := Lib.hid hr
  have SO := Lib.hid (fun g bx V hV hC => sortStable_any g n n bx rb ro c2 r V hV hC (Nat.le_refl _) hn1)
  have HN := Lib.hid hn1
  have hn2 : n < 1000 := by omega
  clear hrb hr hn1
  go_enter Try.func19, Try.ntmps19
  go_wp2_with fail
  obtain ⟨bx, hbx⟩ := named w.heap.size
  rw [hbx]
  obtain ⟨W0, hW0⟩ : ∃ W0, ((w.alloc (.cells #[.slice (some ⟨rb, ro, none⟩) n c2] 22)).alloc (.cells (Array.replicate n (.int .i64 0)) 3)) = W0 := ⟨_, rfl⟩
  have hB0 : Below w.heap.size w W0 := by rw [← hW0]; exact ((Below.refl _ _).alloc (Nat.le_refl _) _).alloc (by simp) _
  have hsz : W0.heap.size = bx + 2 := by rw [← hW0]; simp; omega
  have hZ : RowZ W0 (bx + 1) n (fun _ => 0) := by
    rw [← hW0]
    have := RowZ.new (w.alloc (.cells #[.slice (some ⟨rb, ro, none⟩) n c2] 22)) n 3
    rw [size_alloc', hbx] at this; exact this
  have hX : W0.cell? ⟨bx, 0, none⟩ = some (.slice (some ⟨rb, ro, none⟩) n c2) := by
    rw [← hW0]
    have h1 : (w.alloc (.cells #[.slice (some ⟨rb, ro, none⟩) n c2] 22)).cell? ⟨w.heap.size, 0, none⟩ = some (.slice (some ⟨rb, ro, none⟩) n c2) := by rw [cell_of_row _ _ _ _ _ _ (heap_alloc_new w _)]; simp
    rw [hbx] at h1
    exact (((Below.refl (bx + 1) _).alloc (by rw [size_alloc']; omega) _).cell (p := ⟨bx, 0, none⟩) (by show bx < bx + 1; omega)).trans h1
  have hZ2 := Lib.hid hZ
  have hB2 := Lib.hid hB0
  have hX2 := Lib.hid hX
  have HS := Lib.hid hsz
  have HBX := Lib.hid hbx
  clear hZ hB0 hX hsz hbx hmk
  rw [hW0]
  clear hW0
  go_loopw [4, 10] (fun _ v wr => ∃ k : Nat, k ≤ n ∧ v = .int .i64 k ∧ Hid (RowZ wr (bx + 1) n (fun x => if x < k then (x : Int) else 0)) ∧ Hid (Below w.heap.size w wr) ∧ Hid (wr.cell? ⟨bx, 0, none⟩ = some (.slice (some ⟨rb, ro, none⟩) n c2)) ∧ Hid (bx + 2 ≤ wr.heap.size)) (fun _ v _ => n - (intOf v).toNat)
  · exact ⟨0, Nat.zero_le _, rfl, Lib.hid (hZ2.out.congr fun k _ => by rw [if_neg (by omega)]), hB2, hX2, Lib.hid (by have := HS.out; omega)⟩
  · clear hZ2 hB2 hX2 HS
    obtain ⟨k, hk, rfl, HZ, HB, HX, HSZ⟩ := hrel
    by_cases hkn : k < n
    · have z1 := lt_t hkn
      have c0 := HZ.out.c k hkn
      have f0 := HZ.out.z k
      have HZ3 := Lib.hid ((HZ.out.set hkn (k : Int)).congr (f' := fun x => if x < k + 1 then (x : Int) else 0) (fun x hx => by
        by_cases e : x = k
        · rw [if_pos e, if_pos (by omega), e]
        · rw [if_neg e]
          by_cases e2 : x < k
          · rw [if_pos e2, if_pos (by omega)]
          · rw [if_neg e2, if_neg (by omega)]))
      have HB3 := Lib.hid (bel_set (k := bx + 1) (i := k) HB.out (by have := HBX.out; omega) (.int .i64 (k : Int)))
      have HX3 := Lib.hid ((World.cell?_setCell_other (wr) ⟨bx + 1, k, none⟩ ⟨bx, 0, none⟩ (.int .i64 (k : Int)) (by intro e; injection e with e1 _ _; omega)).trans HX.out)
      have HS3 := Lib.hid (show bx + 2 ≤ (wr.setCell ⟨bx + 1, k, none⟩ (.int .i64 (k : Int))).heap.size by rw [size_setCell]; exact HSZ.out)
      go_wp2_with fail
      go_roundw
      case rel => exact ⟨k + 1, by omega, by go_num, HZ3, HB3, HX3, HS3⟩
      case measure => simp [intOf]; omega
    · obtain rfl : k = n := by omega
      have z1 := lt_f (Nat.le_refl k)
      have hrl := HRB.out
      have D := Lib.hid (SO.out (bx + 1) bx wr (HZ.out.at fun x hx => by rw [if_pos hx]) ⟨⟨HX.out, fun i hi => (HB.out.cell (p := ⟨rb, ro + i, none⟩) hrl).trans (HRr.out i hi)⟩, ⟨by have := HSZ.out; omega, by omega⟩, ⟨by have := HSZ.out; have := HBX.out; omega, by have := HBX.out; omega⟩⟩)
      have hmf : ∀ (fn : Fn) (first cap : Array Value) (w : World), (Instr.makeFunc fn first cap).run Try.prog w = .ok (.func fn first cap) w := fun _ _ _ _ => rfl
      clear hkn hrl
      go_wp2_with fail
      refine D.out.mono ?_
      rintro e w1 ⟨rfl, T, h1, h2, h3, h4⟩
      have H1 := Lib.hid h1
      have H2 := Lib.hid (And.intro h2 h3)
      have H4 := Lib.hid (h4.bel HB.out (by have := HBX.out; omega) HB.out.size)
      clear h1 h2 h3 h4
      go_wp2_with fail
      go_ret
      exact ⟨bx + 1, T, rfl, ⟨by have := HBX.out; omega, H1.out⟩, H2.out, H4.out⟩
end Go.Proofs.Ytbiofjddclbncaa.Sr
