import Derived.Test.YtnpebfolmdbipaaGreatDoorD4
import Derived.Lib.SliceRun
namespace Go.Proofs.YtnpebfolmdbipaaGreatDoor.Dk
set_option linter.unusedVariables false
set_option linter.unusedSimpArgs false
open Go.RowKit Mem Go.ChangeMaps
variable {w : World} {db : Nat} {y : Lay} {d : Dsk}

theorem u8_info : (Tryz.prog.info? 5).map (fun i => (i.zero, i.size, i.bytes)) = some (some (.int .u8 0), 1, 1) := by kernel_rfl
theorem byteTy : ByteTy Tryz.prog 36 5 := ⟨Tryz.underlying36, Tryz.underlying5, by
  obtain ⟨i, h1, h2, h3, h4⟩ := info_parts u8_info
  exact ⟨i, h1, h2, h3, h4⟩⟩
theorem row_info : (Tryz.prog.info? 36).map (fun i => (i.zero, i.size, i.bytes)) = some (some (.slice none 0 0), 1, 24) := by kernel_rfl
theorem zero42 (W : World) : (zeroValue 36).run Tryz.prog W = .ok (.slice none 0 0) W := by kernel_rfl

/-- slices.Clone of bytes. -/
theorem clone_any (A : Option Addr) (c n : Nat) (l : List UInt8) (w : World) (hr : Rd w w.heap.size A c l) (hl : l.length = n) (hn : n ≤ 140737488355328) :
    Calls Tryz.prog 88 #[.slice A n c] w fun e w' => ∃ v, e = .returned v ∧ Own 5 w' w.heap.size v l ∧ Below w.heap.size w w' := by
  have he := fun (a : Option Addr) (l c : Nat) => Lib.run_eql_slice_nil (P := Tryz.prog) w 36 5 a l c 0 0 Tryz.underlying36
  rcases A with _ | ad
  · have h0 := hr.2.2.1 rfl
    have : l = [] := List.eq_nil_of_length_eq_zero (by have := hr.1; omega)
    subst this
    go_enter Tryz.func88, Tryz.ntmps88
    go_wp2
    go_ret
    exact ⟨_, rfl, Own.nil _ _ _, Below.refl _ _⟩
  · subst hl
    have hHr := Lib.hid hr
    clear hr
    go_enter Tryz.func88, Tryz.ntmps88
    go_wp2_with (at_builtin; refine wpList_append_rd byteTy rfl _ _ rfl w.heap.size _ [] rfl (Own.lit 5 w [] _ (Nat.le_refl _) (Nat.zero_le _)) w.heap.size _ _ _ _ rfl rfl (hHr.out.alloc (Nat.le_refl _) _) (by simpa using hn) (by simp) ?_; intro v2 w2 hown2 hg2 hat2)
    go_ret
    exact ⟨_, rfl, by simpa using hown2, own_trans ((Below.refl _ w).alloc (Nat.le_refl _) _) hg2 (fun k hk => by change some w.heap.size = some k at hk; injection hk; omega)⟩

theorem OwnI.lit (w : World) (l : List Int) (base : Nat) (hb : base ≤ w.heap.size) (h : l.length ≤ maxLen) : OwnI (w.alloc (.cells (l.map (Value.int .i64)).toArray 3)) base (.slice (some ⟨w.heap.size, 0, none⟩) l.length l.length) l := by
  have := World.ownsRow_lit (size := 1) (e := 3) w (l.map (Value.int .i64)).toArray l.length hb h (by simp)
  unfold OwnI
  simpa using this

/-- Nothing waits any more. -/
def Dsk.forget (d : Dsk) : Dsk := { d with wait := fun _ => none, order := [] }
def Lay.forget (y : Lay) : Lay := { y with ov := .slice none 0 0, M := fun _ => none, m := 0 }
theorem Dsk.forget_good (d : Dsk) : Good d.forget := ⟨fun i => by simp [Dsk.forget], List.nodup_nil⟩
/-- Behind the map is cleared, and the order let go; of each page L tells what lasts. -/
theorem IsD.clearTo {w1 : World} (hrow : w.rowIs db 98 6 (cells y d)) (n1 : 1 ≤ d.n) (n2 : d.n ≤ 4096) (hlasts : w.rowIs y.lb 36 d.n (fun i => sl (y.L i))) (hl : ∀ i, i < d.n → LastAt w y.role i (y.L i) (d.last i))
    (rdb : y.role db = some .disk) (rlb : y.role y.lb = some .lasts) (rmb : y.role y.mb = some .waits) (foot : ∀ k, y.foot k → k < w.heap.size) (fuseOk : d.fuse.getD 0 < 9223372036854775808) (lastLen : ∀ i, i < d.n → (d.last i).length = 4096)
    (hm : MapIs w1 y.mb 0 (.slice none 0 0) (fun _ => none)) (ht : w.mapTurned w1 y.mb) :
    IsD (w1.setCell ⟨db, 2, none⟩ (.slice none 0 0)) db y.forget d.forget ∧ Kp w y (w1.setCell ⟨db, 2, none⟩ (.slice none 0 0)) y.forget := by
  have hnm : ∀ {k r}, y.role k = some r → r ≠ .waits → k ≠ y.mb := fun e hr e2 => hr (by rw [e2, rmb] at e; cases e; rfl)
  have hnd : ∀ {k r}, y.role k = some r → r ≠ .disk → k ≠ db := fun e hr e2 => hr (by rw [e2, rdb] at e; cases e; rfl)
  have hg := ht.grown
  have h1 : ∀ {k r}, y.role k = some r → r ≠ .waits → w1.heap[k]? = w.heap[k]? := fun {k r} e hr => hg.block k (foot k (by simp [Lay.foot, e])) (fun e2 => hnm e hr (by injection e2))
  have h2 : ∀ {k r}, y.role k = some r → r ≠ .disk → (w1.setCell ⟨db, 2, none⟩ (.slice none 0 0)).heap[k]? = w1.heap[k]? := fun e hr => Below.heap_setCell _ _ _ _ (hnd e hr)
  have h3 : ∀ {k r}, y.role k = some r → r ≠ .waits → r ≠ .disk → (w1.setCell ⟨db, 2, none⟩ (.slice none 0 0)).heap[k]? = w.heap[k]? := fun e hr hr' => (h2 e hr').trans (h1 e hr)
  refine ⟨{ n1 := n1, n2 := n2
            row := ((hrow.of_block (h1 rdb (by simp))).set 2 (.slice none 0 0)).congr fun j hj => by match j, hj with | 0, _ | 1, _ | 2, _ | 3, _ | 4, _ | 5, _ => rfl
            lasts := hlasts.of_block (h3 rlb (by simp) (by simp))
            waits := hm.of_block (h2 rmb (by simp))
            ord := OwnI.nil _ _
            lastOk := fun i hi => (hl i hi).of_block fun k e => h3 e (by simp) (by simp)
            waitOk := fun i hi => trivial
            apart := fun i b c b' c' _ e => by cases e
            rdb := rdb, rlb := rlb, rmb := rmb
            rob := fun k e => by cases e
            foot := fun k hk => by have := foot k hk; have := hg.size; simp [World.setCell]; omega
            ordLen := Nat.zero_le _, fuseOk := fuseOk, lastLen := lastLen, waitLen := fun i l _ e => by cases e }, ?_⟩
  refine ⟨(Fr.turned ht (fun _ => by simp [Lay.foot, rmb])).trans (Fr.setCell (F := y.foot) _ _ (fun _ => by simp [Lay.foot, rdb]) _) fun _ _ h => h, fun k _ hk => hk⟩

theorem forget_any (h : IsD w db y d) : Calls Tryz.prog 69 #[ptr db] w fun e w' => e = .returned (.tuple #[]) ∧ IsD w' db y.forget d.forget ∧ Kp w y w' y.forget := by
  have h1 := h.c1
  obtain ⟨w1, hrun, hm, ht⟩ := h.waits.clear Tryz.underlying83 0
  have hb := ht.grown.block db (h.foot db h.fdb) (fun e => h.ne_mb (by injection e))
  have h2 : w1.cell? ⟨db, 2, none⟩ = some y.ov := (World.cell?_of_block (w := w) hb).trans h.c2
  have f2 : w1.frozen? ⟨db, 2, none⟩ = false := (World.frozen?_of_block (w := w) hb).trans (h.frozen 2)
  have H := Lib.hid (IsD.clearTo h.row h.n1 h.n2 h.lasts h.lastOk h.rdb h.rlb h.rmb h.foot h.fuseOk h.lastLen hm ht)
  clear h hm ht hb
  go_enter Tryz.func69, Tryz.ntmps69
  go_wp2
  go_end0
  exact ⟨rfl, H.out.1, H.out.2⟩
end Go.Proofs.YtnpebfolmdbipaaGreatDoor.Dk
