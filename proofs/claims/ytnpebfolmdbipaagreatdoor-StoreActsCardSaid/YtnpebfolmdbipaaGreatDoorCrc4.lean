import Derived.Test.YtnpebfolmdbipaaGreatDoorCrc2
import Derived.Laws.BytesArg
import Derived.Laws.Strings
namespace Go.Proofs.YtnpebfolmdbipaaGreatDoor
open Go.RowKit Mem

theorem rd_litc (w : World) (l : List UInt8) (cs : Array Value) (hc : cs = bcs l) (h : l.length ≤ 100000) (fr : Nat × Nat := (0, 0)) : Rd (w.alloc (.cells cs 5 fr)) (w.alloc (.cells cs 5 fr)).heap.size (some ⟨w.heap.size, 0, none⟩) l.length l := by
  subst hc
  exact Rd.lit w l 5 _ (by rw [size_alloc']; omega) (by unfold maxLen; omega) fr

/-- Check of a list of parts that the call has just made. -/
theorem Check_new (w : World) (ps : List Part) (cs : Array Value) (n : Nat) (hn : n = ps.length) (hc : cs = (ps.map Part.v).toArray) (hl : ps.length ≤ 1000) (hw : Tab w) (hp : ∀ p, p ∈ ps → Rd w w.heap.size p.A p.c p.l) (m : Nat) (hm : Crc.check (flat ps) = m) :
    Calls Tryz.prog 86 #[.slice (some ⟨w.heap.size, 0, none⟩) n n] (w.alloc (.cells cs 36)) fun e w' => e = .returned (.int .u32 (m : Int)) ∧ w.alloc (.cells cs 36) = w' := by
  subst hm
  have h := Pts.new w ps 36 n cs hn hc hl hp
  subst hn
  exact Check_any _ _ ps _ (hw.below ((Below.refl w.heap.size w).alloc (Nat.le_refl _) _) hw.1) (by rw [size_alloc']; exact h)

theorem Tab.alloc {w : World} (h : Tab w) (o : Obj) : Tab (w.alloc o) := h.below ((Below.refl w.heap.size w).alloc (Nat.le_refl _) _) h.1
theorem below_two (w : World) (o p : Obj) : Below w.heap.size w ((w.alloc o).alloc p) :=
  ((Below.refl _ w).alloc (Nat.le_refl _) o).alloc (by rw [size_alloc']; omega) p

/-- Check of one list that is there. -/
theorem Check_one (W : World) (hW : Tab W) (A : Option Addr) (n c : Nat) (l : List UInt8) (hn : l.length = n) (hl : Rd W W.heap.size A c l) (m : Nat) (hm : Crc.check l = m) :
    Calls Tryz.prog 86 #[.slice (some ⟨W.heap.size, 0, none⟩) 1 1] (W.alloc (.cells #[.slice A n c] 36)) fun e w' => e = .returned (.int .u32 (m : Int)) ∧ Below W.heap.size W w' := by
  subst hn
  refine (Check_new W [⟨A, c, l⟩] #[.slice A l.length c] 1 rfl rfl (by simp) hW (fun p hp => by obtain rfl := List.mem_singleton.1 hp; exact hl) m (by simpa [flat] using hm)).mono ?_
  rintro e w' ⟨rfl, rfl⟩
  exact ⟨rfl, (Below.refl _ W).alloc (Nat.le_refl _) _⟩

/-- Check of a list of one part, of three, wherever it lies above what the parts are read from. -/
theorem Check1_at (W W0 : World) (g : Nat) (A : Option Addr) (n c : Nat) (l : List UInt8) (m : Nat) (hb : Below W0.heap.size W0 W) (hg : g < W.heap.size) (h0 : W.cell? ⟨g, 0, none⟩ = some (.slice A n c)) (hn : l.length = n) (hl : Rd W0 W0.heap.size A c l) (hW : Tab W0) (hm : Crc.check l = m) :
    Calls Tryz.prog 86 #[.slice (some ⟨g, 0, none⟩) 1 1] W fun e w' => e = .returned (.int .u32 (m : Int)) ∧ W = w' := by
  subst hn; subst hm
  refine (Check_any (some ⟨g, 0, none⟩) 1 [⟨A, c, l⟩] W (hW.below hb hW.1) ⟨by simp, by unfold maxLen; omega, fun e => (by cases e), fun _ => ⟨g, 0, rfl, hg, fun i hi => ?_⟩⟩).mono ?_
  · simp at hi
    subst hi
    exact ⟨h0, (hl.below hb).more hb.size⟩
  · rintro e w' ⟨rfl, rfl⟩
    exact ⟨by simp [flat], rfl⟩
theorem Check3_at (W W0 : World) (g : Nat) (p q r : Part) (np nq nr m : Nat) (hb : Below W0.heap.size W0 W) (hg : g < W.heap.size) (h0 : W.cell? ⟨g, 0, none⟩ = some (.slice p.A np p.c)) (h1 : W.cell? ⟨g, 1, none⟩ = some (.slice q.A nq q.c)) (h2 : W.cell? ⟨g, 2, none⟩ = some (.slice r.A nr r.c))
    (hp : p.l.length = np) (hq : q.l.length = nq) (hr : r.l.length = nr) (rp : Rd W0 W0.heap.size p.A p.c p.l) (rq : Rd W0 W0.heap.size q.A q.c q.l) (rr : Rd W0 W0.heap.size r.A r.c r.l) (hW : Tab W0) (hm : Crc.check (p.l ++ (q.l ++ r.l)) = m) :
    Calls Tryz.prog 86 #[.slice (some ⟨g, 0, none⟩) 3 3] W fun e w' => e = .returned (.int .u32 (m : Int)) ∧ W = w' := by
  subst hp; subst hq; subst hr; subst hm
  refine (Check_any (some ⟨g, 0, none⟩) 3 [p, q, r] W (hW.below hb hW.1) ⟨by simp, by unfold maxLen; omega, fun e => (by cases e), fun _ => ⟨g, 0, rfl, hg, fun i hi => ?_⟩⟩).mono ?_
  · match i, hi with
    | 0, _ => exact ⟨h0, (rp.below hb).more hb.size⟩
    | 1, _ => exact ⟨h1, (rq.below hb).more hb.size⟩
    | 2, _ => exact ⟨h2, (rr.below hb).more hb.size⟩
  · rintro e w' ⟨rfl, rfl⟩
    exact ⟨by simp [flat], rfl⟩

theorem below_1 (w : World) (o : Obj) : Below w.heap.size w (w.alloc o).drew := ((Below.refl _ w).alloc (Nat.le_refl _) o).drew
theorem below_2 (w : World) (o p : Obj) : Below w.heap.size w ((w.alloc o).alloc p).drew := (below_two w o p).drew

theorem byteTyc : ByteTy Tryz.prog 36 5 := by
  refine ⟨Tryz.underlying36, Tryz.underlying5, ?_⟩
  have h : (Tryz.prog.info? 5).map (fun i => (i.zero, i.size, i.bytes)) = some (some (.int .u8 0), 1, 1) := by kernel_rfl
  obtain ⟨i, h1, h2, h3, h4⟩ := info_parts h
  exact ⟨i, h1, h2, h3, h4⟩

theorem own_empty (w : World) : Own 5 (w.alloc (.cells #[] 5)) w.heap.size (.slice (some ⟨w.heap.size, 0, none⟩) 0 0) [] := Own.lit 5 w [] w.heap.size (Nat.le_refl _) (by simp [maxLen])

theorem app_below {w w' : World} (h : (w.alloc (.cells #[] 5)).grownBy w' (Value.slice (some ⟨w.heap.size, 0, none⟩) 0 0).ownBlock) : Below w.heap.size w w' :=
  ((Below.refl _ w).alloc (Nat.le_refl _) (.cells #[] 5)).grown h (by simp) (fun k hk => by simp [Value.ownBlock] at hk; omega)

theorem own_lt {w : World} {base g n c : Nat} {l : List UInt8} (h : Own 5 w base (.slice (some ⟨g, 0, none⟩) n c) l) : base ≤ g ∧ g < w.heap.size := World.ownsRow.lt h g rfl
theorem own_open {w : World} {base : Nat} {v : Value} {l : List UInt8} (h : Own 5 w base v ([] ++ l)) (h0 : 0 < l.length) :
    ∃ g c, v = .slice (some ⟨g, 0, none⟩) l.length c ∧ base ≤ g ∧ (∀ i (h : i < l.length), w.cell? ⟨g, i, none⟩ = some (.int .u8 (l[i].toNat : Int))) ∧ ∀ i, w.frozen? ⟨g, i, none⟩ = false := by
  rw [List.nil_append] at h
  rcases h.2 with ⟨_, hz⟩ | ⟨g, cap, cur, rfl, hb, _⟩
  · omega
  · refine ⟨g, cap, rfl, hb, fun i hi => ?_, fun i => World.ownsRow.frozenAt h i⟩
    rw [World.ownsRow.cellAt h i (by omega)]
    simp [hi, bv]

theorem own_rd {w : World} {base g c n : Nat} {l : List UInt8} (h : Own 5 w base (.slice (some ⟨g, 0, none⟩) n c) l) (_hn : l.length = n) : Rd w w.heap.size (some ⟨g, 0, none⟩) c l := by
  obtain ⟨A, c', e, hr, _⟩ := h.form
  simp at e
  obtain ⟨rfl, _, rfl⟩ := e
  exact hr

/-- The string of bytes. -/
def stc (l : List UInt8) : ByteArray := ⟨l.toArray⟩
theorem run_stc_rd (w : World) {B : Nat} {A : Option Addr} {c : Nat} {l : List UInt8} (h : Rd w B A c l) : (convert 36 9 (.slice A l.length c)).run Tryz.prog w = .ok (.string (stc l)) w := by
  by_cases h0 : 0 < l.length
  · obtain ⟨b, o, rfl, _, hc⟩ := h.2.2.2 h0
    rw [run_convert_bytes_arg (P := Tryz.prog) w 36 5 Tryz.underlying36 Tryz.underlying5 b o l.length c (l.map fun x => (x.toNat : Int)) (by simp) (fun i hi => by rw [hc i hi]; simp [List.getD, hi]) 9 Tryz.underlying9]
    congr 2
    apply ByteArray.ext
    apply Array.toList_inj.1
    simp [strOfNums, stc, Function.comp_def]
  · have : l = [] := List.eq_nil_of_length_eq_zero (by omega)
    subst this
    rcases A with _ | ad
    · exact run_convert_bytes_nil (P := Tryz.prog) w 36 5 Tryz.underlying36 Tryz.underlying5 _ _ 9 Tryz.underlying9
    · rw [run_convert_bytes_string w 36 9 5 (some ad) _ c Tryz.underlying36 Tryz.underlying5 Tryz.underlying9, run_bytesToString w ad _ c [] (by simp [loadCells, loadCellsFrom])]
      rfl

theorem flat_app (a b : List Part) : flat (a ++ b) = flat a ++ flat b := by unfold flat; rw [List.map_append, List.flatten_append]
theorem flat_cons (p : Part) (b : List Part) : flat (p :: b) = p.l ++ flat b := rfl
theorem flat_mid (ps : List Part) (k : Nat) (hk : k < ps.length) : ((flat ps).drop (flat (ps.take k)).length).take ps[k].l.length = ps[k].l := by
  have h : flat ps = flat (ps.take k) ++ (ps[k].l ++ flat (ps.drop (k + 1))) := by
    have h1 : ps = ps.take k ++ ps[k] :: ps.drop (k + 1) := by rw [← List.drop_eq_getElem_cons hk, List.take_append_drop]
    have h2 : flat (ps.take k ++ ps[k] :: ps.drop (k + 1)) = flat (ps.take k) ++ (ps[k].l ++ flat (ps.drop (k + 1))) := by
      rw [flat_app, flat_cons]
    rw [← h1] at h2
    exact h2
  rw [h, List.drop_left, List.take_left]
theorem flat_le (ps : List Part) (k : Nat) (hk : k < ps.length) : (flat (ps.take k)).length + ps[k].l.length ≤ (flat ps).length := by
  have h1 := flat_take_le ps (k + 1)
  rw [flat_take ps k hk, List.length_append] at h1
  exact h1
end Go.Proofs.YtnpebfolmdbipaaGreatDoor
