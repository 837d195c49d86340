import Derived.Test.YtnpebfolmdbipaaGreatDoorZ5
import Derived.Maps.AppendAt
namespace Go.Proofs.YtnpebfolmdbipaaGreatDoor.Sk
set_option maxRecDepth 8000
set_option linter.unusedVariables false
set_option linter.unusedSimpArgs false
open Go.RowKit Mem Go.ChangeMaps
open Dk (cod elem cod_inj elem_mk elem_inv key key_inj wf_key keyed3 MapIs Fr ptr hmf cell_alloc cell_alloc_new zero42 IsD Dsk Lay drewN_cell Kp ref_zero newD newY)
/-! ### The document's store: a view, as data and in memory -/
/-- A view. -/
structure Rv where
  root : Nat
  tx : Nat → List UInt8
  tk : Nat → Bool
  ow : Nat → Bool
  he : Nat → Bool
  so : Bool
/-- Where its rows lie. -/
structure Vh where
  b : Nat → Nat
  c : Nat → Nat
def rowv (v : Rv) : Nat → Nat → Value
  | 0, j => .string (str (v.tx j))
  | 1, j => .bool (v.tk j)
  | 2, j => .bool (v.ow j)
  | _, j => .bool (v.he j)
def et : Nat → TypeId
  | 0 => 9
  | _ => 4
/-- A row of n cells that a slice owns. -/
def RowAt (w : World) (b : Nat) (t : TypeId) (n c : Nat) (f : Nat → Value) : Prop := w.ownsRow 0 t 1 (.slice (some ⟨b, 0, none⟩) n c) n ((List.range n).map f)
section
variable {w w' : World} {b n c : Nat} {t : TypeId} {f g : Nat → Value}
theorem RowAt.mk' (h : RowAt w b t n c f) : ∃ cur : Array Value, w.heap[b]? = some (.cells cur t (0, 0)) ∧ n ≤ c ∧ c ≤ maxLen ∧ cur.size = c ∧ ∀ j, j < n → cur[j]? = some (f j) := by
  rcases h.2 with ⟨e, _⟩ | ⟨g, cap, cur, e, _, hb, h1, h2, h3, h4⟩
  · cases e
  · injection e with e1 e2 e3
    injection e1 with e1
    injection e1 with e1
    subst e1; subst e3
    refine ⟨cur, hb, h1, h2, by omega, fun j hj => ?_⟩
    have h5 : (cur.toList.take (n * 1))[j]? = some (f j) := by
      rw [h4, List.getElem?_map, List.getElem?_range hj]; rfl
    rw [List.getElem?_take_of_lt (by omega)] at h5
    simpa using h5
theorem RowAt.of (cur : Array Value) (h : w.heap[b]? = some (.cells cur t (0, 0))) (h1 : n ≤ c) (h2 : c ≤ maxLen) (h3 : cur.size = c) (h4 : ∀ j, j < n → cur[j]? = some (f j)) : RowAt w b t n c f := by
  refine ⟨by simp, .inr ⟨b, c, cur, rfl, Nat.zero_le _, h, h1, h2, by omega, ?_⟩⟩
  apply List.ext_getElem?
  intro j
  by_cases hj : j < n
  · rw [List.getElem?_take_of_lt (by omega), List.getElem?_map, List.getElem?_range hj]
    simpa using h4 j hj
  · rw [List.getElem?_eq_none (by simp; omega), List.getElem?_eq_none (by simp; omega)]
theorem RowAt.cell (h : RowAt w b t n c f) {j : Nat} (hj : j < n) : w.cell? ⟨b, j, none⟩ = some (f j) := by
  obtain ⟨cur, hb, _, _, _, hc⟩ := h.mk'
  simp [World.cell?, hb, hc j hj]
theorem RowAt.frozen (h : RowAt w b t n c f) (j : Nat) : w.frozen? ⟨b, j, none⟩ = false := by
  obtain ⟨cur, hb, _⟩ := h.mk'
  simp [World.frozen?, hb]
theorem RowAt.lt (h : RowAt w b t n c f) : b < w.heap.size := by
  obtain ⟨cur, hb, _⟩ := h.mk'
  exact (Array.getElem?_eq_some_iff.1 hb).1
theorem RowAt.room (h : RowAt w b t n c f) : n ≤ c ∧ c ≤ maxLen := by
  obtain ⟨cur, _, h1, h2, _⟩ := h.mk'; exact ⟨h1, h2⟩
theorem RowAt.of_block (h : RowAt w b t n c f) (e : w'.heap[b]? = w.heap[b]?) : RowAt w' b t n c f := by
  obtain ⟨cur, hb, h1, h2, h3, h4⟩ := h.mk'
  exact RowAt.of cur (e.trans hb) h1 h2 h3 h4
theorem RowAt.congr (h : RowAt w b t n c f) (e : ∀ j, j < n → f j = g j) : RowAt w b t n c g := by
  obtain ⟨cur, hb, h1, h2, h3, h4⟩ := h.mk'
  exact RowAt.of cur hb h1 h2 h3 fun j hj => (h4 j hj).trans (by rw [e j hj])
theorem RowAt.set (h : RowAt w b t n c f) (i : Nat) (hi : i < n) (v : Value) : RowAt (w.setCell ⟨b, i, none⟩ v) b t n c (fun j => if j = i then v else f j) := by
  obtain ⟨cur, hb, h1, h2, h3, h4⟩ := h.mk'
  refine RowAt.of (cur.setIfInBounds i v) ?_ h1 h2 (by simpa using h3) fun j hj => ?_
  · simp [World.setCell, Array.getElem?_modify, hb]
  · rw [Array.getElem?_setIfInBounds]
    by_cases e : j = i
    · subst e; simp [h3]; omega
    · rw [if_neg (fun h => e h.symm)]
      show cur[j]? = some (if j = i then v else f j)
      rw [if_neg e]; exact h4 j hj
end
/-- A view's rows. -/
def RowsAt (w : World) (n : Nat) (h : Vh) (v : Rv) : Prop := ∀ i, i < 4 → RowAt w (h.b i) (et i) n (h.c i) (rowv v i)
theorem RowsAt.keep {w w' : World} {n : Nat} {h : Vh} {v : Rv} (r : RowsAt w n h v) (e : ∀ i, i < 4 → w'.heap[h.b i]? = w.heap[h.b i]?) : RowsAt w' n h v := fun i hi => (r i hi).of_block (e i hi)
def slv (h : Vh) (n i : Nat) : Value := .slice (some ⟨h.b i, 0, none⟩) n (h.c i)
/-- A view's cells. -/
def vcell (n : Nat) (v : Rv) (h : Vh) : Nat → Value
  | 0 => .int .i64 (v.root : Int)
  | 1 => slv h n 0
  | 2 => slv h n 1
  | 3 => slv h n 2
  | 4 => slv h n 3
  | _ => .bool v.so
def vval (n : Nat) (v : Rv) (h : Vh) : Value := .agg #[.int .i64 (v.root : Int), slv h n 0, slv h n 1, slv h n 2, slv h n 3, .bool v.so]
theorem info9 : (Tryz.prog.info? 9).map (fun i => (i.zero, i.size, i.bytes)) = some (some (.string ByteArray.empty), 1, 16) := by kernel_rfl
theorem info4b : (Tryz.prog.info? 4).map (fun i => (i.zero, i.size, i.bytes)) = some (some (.bool false), 1, 1) := by kernel_rfl
/-- append of a row to a list without elements: a row of one's own. -/
theorem run_clone {w : World} {base b n c : Nat} {ts t : TypeId} {f : Nat → Value} {i : TypeInfo} {z : Value} {bytes : Nat} (ht : Tryz.prog.underlying ts = some (.slice t)) (hi : Tryz.prog.info? t = some i) (hz : i.zero = some z) (hsz : i.size = 1) (hby : i.bytes = bytes) (hzs : z.cells.size = 1) (hb16 : bytes ≤ 16)
    (hr : RowAt w b t n c f) (h1 : ∀ j, j < n → (f j).oneCell' = true) (hn : 0 < n) (hn2 : n ≤ 4096) (v : Value) (hv : w.ownsRow base t 1 v 0 []) (hbase : base ≤ w.heap.size) :
    ∃ b' c' w', (Builtin.append_ #[ts, ts] ts #[v, .slice (some ⟨b, 0, none⟩) n c]).run Tryz.prog w = .ok (.slice (some ⟨b', 0, none⟩) n c') w' ∧ RowAt w' b' t n c' f ∧ base ≤ b' ∧ b' < w'.heap.size ∧ w.grownBy w' v.ownBlock := by
  obtain ⟨v', w', hrun, ho, hg, hne, hbl⟩ := run_append_own_at (P := Tryz.prog) w base ts ts t i z 1 bytes ht hi hz hsz hby hzs (by omega) v 0 [] hv ⟨b, 0, none⟩ n c ((List.range n).map f) (by simp) (fun j u hj => by
    have hjn : j < n := by have := (List.getElem?_eq_some_iff.1 hj).1; simpa using this
    rw [List.getElem?_map, List.getElem?_range hjn] at hj
    injection hj with hj
    subst hj
    rw [Mem.add_plain, Nat.zero_add]; exact hr.cell hjn) (fun u hu => by
    obtain ⟨j, hj, rfl⟩ := List.mem_map.1 hu
    exact h1 j (List.mem_range.1 hj)) (by unfold maxLen; omega) (by have := Nat.mul_le_mul (show 0 + n ≤ 4096 by omega) hb16; omega) hbase
  rw [Nat.zero_add, List.nil_append] at ho
  rcases ho.2 with ⟨e, e2⟩ | ⟨g, cap, cur, rfl, hgb, hb, hx1, hx2, hx3, hx4⟩
  · omega
  · exact ⟨g, cap, w', hrun, ⟨ho.1, .inr ⟨g, cap, cur, rfl, Nat.zero_le _, hb, hx1, hx2, hx3, hx4⟩⟩, hgb, (Array.getElem?_eq_some_iff.1 hb).1, hg⟩
theorem run_cloneS {w : World} {base b n c : Nat} {f : Nat → List UInt8} (hr : RowAt w b 9 n c (fun j => .string (str (f j)))) (hn : 0 < n) (hn2 : n ≤ 4096) (v : Value) (hv : w.ownsRow base 9 1 v 0 []) (hbase : base ≤ w.heap.size) :
    ∃ b' c' w', (Builtin.append_ #[59, 59] 59 #[v, .slice (some ⟨b, 0, none⟩) n c]).run Tryz.prog w = .ok (.slice (some ⟨b', 0, none⟩) n c') w' ∧ RowAt w' b' 9 n c' (fun j => .string (str (f j))) ∧ base ≤ b' ∧ b' < w'.heap.size ∧ w.grownBy w' v.ownBlock := by
  obtain ⟨i, hi, hz, h1, h2⟩ := info_parts info9
  exact run_clone Tryz.underlying59 hi hz h1 h2 rfl (Nat.le_refl _) hr (fun _ _ => rfl) hn hn2 v hv hbase
theorem run_cloneB {w : World} {base b n c : Nat} {f : Nat → Bool} (hr : RowAt w b 4 n c (fun j => .bool (f j))) (hn : 0 < n) (hn2 : n ≤ 4096) (v : Value) (hv : w.ownsRow base 4 1 v 0 []) (hbase : base ≤ w.heap.size) :
    ∃ b' c' w', (Builtin.append_ #[71, 71] 71 #[v, .slice (some ⟨b, 0, none⟩) n c]).run Tryz.prog w = .ok (.slice (some ⟨b', 0, none⟩) n c') w' ∧ RowAt w' b' 4 n c' (fun j => .bool (f j)) ∧ base ≤ b' ∧ b' < w'.heap.size ∧ w.grownBy w' v.ownBlock := by
  obtain ⟨i, hi, hz, h1, h2⟩ := info_parts info4b
  exact run_clone Tryz.underlying71 hi hz h1 h2 rfl (by omega) hr (fun _ _ => rfl) hn hn2 v hv hbase
/-- An empty row that was just made. -/
theorem empty_row (w : World) (t : TypeId) : (w.alloc (.cells #[] t)).ownsRow w.heap.size t 1 (.slice (some ⟨w.heap.size, 0, none⟩) 0 0) 0 [] :=
  ⟨rfl, .inr ⟨w.heap.size, 0, #[], rfl, Nat.le_refl _, heap_alloc_new w _, Nat.le_refl _, Nat.zero_le _, rfl, rfl⟩⟩
theorem wpList_append_ran {ops : Array Oper} {rest : List Oper} {o : Oper} {a : Act} {Q : Exit → Act → World → Prop} {w w' : World} {v' : Value} (hgd : o.guard = none) (s x : Operand) (t : TypeId)
    (ho : o.op = .call { callee := .builtin .append, args := #[s, x], argTypes := #[t, t] }) (v u : Value) (hs : a.eval s = v) (hx : a.eval x = u) (hr : (Builtin.append_ #[t, t] o.type #[v, u]).run Tryz.prog w = .ok v' w')
    (h : wpList Tryz.prog ops Q rest (a.put o.dst v') w') : wpList Tryz.prog ops Q (o :: rest) a w := by
  refine wpList_plain hgd fun K hK => ?_
  unfold Oper.wp execOp
  simp only [ho, resolve, invoke, builtin, Sem.run_bind, Sem.run_pure, Result.andThen_ok, List.map_toArray, List.map_cons, List.map_nil, hs, hx, hr]
  exact hK _ _ h
/-- Copy, under way: its parameter in a block of its own, its result in the next one. -/
structure CpS (w Y : World) (f : Nat → Value) : Prop where
  row : Y.rowIs w.heap.size 73 6 f
  res : Y.rowIs (w.heap.size + 1) 73 6 (fun i => if i = 0 then .int .i64 0 else if i = 5 then .bool false else .slice none 0 0)
  bel : Below w.heap.size w Y
theorem CpS.two {w Y : World} {f : Nat → Value} (h : CpS w Y f) : w.heap.size + 2 ≤ Y.heap.size := by have := h.res.lt; omega
def upd (f : Nat → Value) (i : Nat) (v : Value) (j : Nat) : Value := if j = i then v else f j
/-- One of Copy's four lists. -/
structure CpN (w Y : World) (n i : Nat) (t ts : TypeId) (f cl : Nat → Value) (src : Value) (b' c' : Nat) (w1 Z : World) : Prop where
  run : (Builtin.append_ #[ts, ts] ts #[.slice (some ⟨Y.heap.size, 0, none⟩) 0 0, src]).run Tryz.prog (Y.alloc (.cells #[] t)) = .ok (.slice (some ⟨b', 0, none⟩) n c') w1
  c : w1.cell? ⟨w.heap.size, i, none⟩ = some (cl i)
  z : w1.frozen? ⟨w.heap.size, i, none⟩ = false
  set : Z = w1.setCell ⟨w.heap.size, i, none⟩ (.slice (some ⟨b', 0, none⟩) n c')
  st : CpS w Z (upd cl i (.slice (some ⟨b', 0, none⟩) n c'))
  row : RowAt Z b' t n c' f
  lo : Y.heap.size ≤ b'
  kp : ∀ j, j < Y.heap.size → j ≠ w.heap.size → Z.heap[j]? = Y.heap[j]?
theorem cp_go {w Y : World} {n i b c : Nat} {t ts : TypeId} {f cl : Nat → Value} {ti : TypeInfo} {z : Value} {bytes : Nat} (ht : Tryz.prog.underlying ts = some (.slice t)) (hi : Tryz.prog.info? t = some ti) (hz : ti.zero = some z) (hsz : ti.size = 1) (hby : ti.bytes = bytes) (hzs : z.cells.size = 1) (hb16 : bytes ≤ 16)
    (h : CpS w Y cl) (hi6 : i < 6) (hr : RowAt w b t n c f) (h1 : ∀ j, j < n → (f j).oneCell' = true) (hn : 0 < n) (hn2 : n ≤ 4096) :
    ∃ b' c' w1 Z, CpN w Y n i t ts f cl (.slice (some ⟨b, 0, none⟩) n c) b' c' w1 Z := by
  have h2 := h.two
  have hb := hr.lt
  have hrY : RowAt (Y.alloc (.cells #[] t)) b t n c f := (hr.of_block (h.bel.block b hb)).of_block (Below.heap_alloc _ _ _ (by omega))
  obtain ⟨b', c', w1, hrun, h3, h4, h5, h6⟩ := run_clone ht hi hz hsz hby hzs hb16 hrY h1 hn hn2 (.slice (some ⟨Y.heap.size, 0, none⟩) 0 0) (empty_row Y t) (by simp)
  have hk : ∀ j, j < Y.heap.size → w1.heap[j]? = Y.heap[j]? := fun j hj => (h6.block j (by simp; omega) (fun e => by simp [Value.ownBlock] at e; omega)).trans (Below.heap_alloc _ _ _ hj)
  have hsz1 : Y.heap.size < w1.heap.size := by have := h6.size; simp at this; omega
  have hrow1 : w1.rowIs w.heap.size 73 6 cl := h.row.of_block (hk _ (by omega))
  have hkz : ∀ j, j ≠ w.heap.size → (w1.setCell ⟨w.heap.size, i, none⟩ (.slice (some ⟨b', 0, none⟩) n c')).heap[j]? = w1.heap[j]? := fun j hj => Below.heap_setCell _ _ _ _ hj
  refine ⟨b', c', w1, _, hrun, hrow1.cell hi6, hrow1.frozen i, rfl, ⟨hrow1.set i _, ?_, ?_⟩, h3.of_block (hkz _ (by omega)), h4, fun j hj hj2 => (hkz j hj2).trans (hk j hj)⟩
  · exact h.res.of_block ((hkz _ (by omega)).trans (hk _ (by omega)))
  · exact (h.bel.trans ((Below.refl _ Y).alloc (Nat.le_refl _) (.cells #[] t) |>.mono (by omega) |>.trans ((⟨h6.os, h6.tape, h6.output, h6.size, fun k hk2 => h6.block k (by simp; omega) (fun e => by simp [Value.ownBlock] at e; omega)⟩ : Below w.heap.size (Y.alloc (.cells #[] t)) w1)))).setCell (Nat.le_refl _) _
theorem cp_S {w Y : World} {n i b c : Nat} {f : Nat → List UInt8} {cl : Nat → Value} (h : CpS w Y cl) (hi6 : i < 6) (hr : RowAt w b 9 n c (fun j => .string (str (f j)))) (hn : 0 < n) (hn2 : n ≤ 4096) :
    ∃ b' c' w1 Z, CpN w Y n i 9 59 (fun j => .string (str (f j))) cl (.slice (some ⟨b, 0, none⟩) n c) b' c' w1 Z := by
  obtain ⟨ti, hi, hz, h1, h2⟩ := info_parts info9
  exact cp_go Tryz.underlying59 hi hz h1 h2 rfl (Nat.le_refl _) h hi6 hr (fun _ _ => rfl) hn hn2
theorem cp_B {w Y : World} {n i b c : Nat} {f : Nat → Bool} {cl : Nat → Value} (h : CpS w Y cl) (hi6 : i < 6) (hr : RowAt w b 4 n c (fun j => .bool (f j))) (hn : 0 < n) (hn2 : n ≤ 4096) :
    ∃ b' c' w1 Z, CpN w Y n i 4 71 (fun j => .bool (f j)) cl (.slice (some ⟨b, 0, none⟩) n c) b' c' w1 Z := by
  obtain ⟨ti, hi, hz, h1, h2⟩ := info_parts info4b
  exact cp_go Tryz.underlying71 hi hz h1 h2 rfl (by omega) h hi6 hr (fun _ _ => rfl) hn hn2
theorem cp_start (w : World) (n : Nat) (v : Rv) (h : Vh) : CpS w ((w.alloc (.cells #[.int .i64 (v.root : Int), slv h n 0, slv h n 1, slv h n 2, slv h n 3, .bool v.so] 73)).alloc (.cells #[.int .i64 0, .slice none 0 0, .slice none 0 0, .slice none 0 0, .slice none 0 0, .bool false] 73)) (vcell n v h) := by
  refine ⟨(World.rowIs_alloc w _ 73 (vcell n v h) (fun i hi => ?_)).alloc _, ?_, ((Below.refl _ w).alloc (Nat.le_refl _) _).alloc (by simp) _⟩
  · have hi : i < 6 := hi
    rcases (by omega : i = 0 ∨ i = 1 ∨ i = 2 ∨ i = 3 ∨ i = 4 ∨ i = 5) with rfl | rfl | rfl | rfl | rfl | rfl <;> rfl
  · have := World.rowIs_alloc (w.alloc (.cells #[.int .i64 (v.root : Int), slv h n 0, slv h n 1, slv h n 2, slv h n 3, .bool v.so] 73)) #[.int .i64 0, .slice none 0 0, .slice none 0 0, .slice none 0 0, .slice none 0 0, .bool false] 73 (fun i => if i = 0 then .int .i64 0 else if i = 5 then .bool false else .slice none 0 0) (fun i hi => by
      have hi : i < 6 := hi
      rcases (by omega : i = 0 ∨ i = 1 ∨ i = 2 ∨ i = 3 ∨ i = 4 ∨ i = 5) with rfl | rfl | rfl | rfl | rfl | rfl <;> rfl)
    rwa [size_alloc'] at this
theorem results_c1 {fn : Func} {a : Tmp} {t : TypeId} {tmps : Array Value} {w : World} (h : fn.results = #[.cell a t]) (b : Nat) (cs : List Value) (dd : TypeDesc) (ha : tmps.getD a undef = .pointer (some ⟨b, 0, none⟩)) (hc : w.rangeAt b 0 cs)
    (hu : Tryz.prog.underlying t = some dd) (hd : dd.isRow = true) (hi : (Tryz.prog.info? t).map (·.size) = some cs.length) : (results fn tmps).run Tryz.prog w = .ok (.agg cs.toArray) w := by
  have hl := run_loadVar_mid w b 0 t cs dd hc hu hd hi
  have ha' : tmps[a]?.getD undef = .pointer (some ⟨b, 0, none⟩) := by rw [← ha]; simp
  simp [results, h, ha', asAddr, hl]
set_option maxHeartbeats 4000000 in
theorem copy_any (w : World) (n : Nat) (v : Rv) (h : Vh) (hr : RowsAt w n h v) (hn : 0 < n) (hn2 : n ≤ 4096) :
    Calls Tryz.prog 46 #[.agg #[.int .i64 (v.root : Int), slv h n 0, slv h n 1, slv h n 2, slv h n 3, .bool v.so]] w fun e w' => ∃ h', e = .returned (.agg #[.int .i64 (v.root : Int), .slice (some ⟨h'.b 0, 0, none⟩) n (h'.c 0), .slice (some ⟨h'.b 1, 0, none⟩) n (h'.c 1), .slice (some ⟨h'.b 2, 0, none⟩) n (h'.c 2), .slice (some ⟨h'.b 3, 0, none⟩) n (h'.c 3), .bool v.so]) ∧ RowsAt w' n h' v ∧ (∀ i, i < 4 → w.heap.size ≤ h'.b i) ∧ (∀ i j, i < 4 → j < 4 → h'.b i = h'.b j → i = j) ∧ Below w.heap.size w w' := by
  obtain ⟨Y, hY⟩ : ∃ Y, Y = (w.alloc (.cells #[.int .i64 (v.root : Int), slv h n 0, slv h n 1, slv h n 2, slv h n 3, .bool v.so] 73)).alloc (.cells #[.int .i64 0, .slice none 0 0, .slice none 0 0, .slice none 0 0, .slice none 0 0, .bool false] 73) := ⟨_, rfl⟩
  have C0 : CpS w Y (vcell n v h) := hY ▸ cp_start w n v h
  obtain ⟨b1, c1, w1, Z1, N1⟩ := cp_S (i := 1) C0 (by omega) (hr 0 (by omega)) hn hn2
  obtain ⟨b2, c2, w2, Z2, N2⟩ := cp_B (i := 2) N1.st (by omega) (hr 1 (by omega)) hn hn2
  obtain ⟨b3, c3, w3, Z3, N3⟩ := cp_B (i := 3) N2.st (by omega) (hr 2 (by omega)) hn hn2
  obtain ⟨b4, c4, w4, Z4, N4⟩ := cp_B (i := 4) N3.st (by omega) (hr 3 (by omega)) hn hn2
  have S1 := N1.set
  have S2 := N2.set
  have S3 := N3.set
  have S4 := N4.set
  have hYs : Y.heap.size = w.heap.size + 1 + 1 := by rw [hY]; simp
  have g1 : Z1.heap.size = w1.heap.size := by rw [S1]; simp [World.setCell]
  have g2 : Z2.heap.size = w2.heap.size := by rw [S2]; simp [World.setCell]
  have g3 : Z3.heap.size = w3.heap.size := by rw [S3]; simp [World.setCell]
  have r1 := N1.run
  have r2 := N2.run
  have r3 := N3.run
  have r4 := N4.run
  rw [hYs] at r1
  rw [g1] at r2
  rw [g2] at r3
  rw [g3] at r4
  have e0 : (Y.alloc (.cells #[] 9)).cell? ⟨w.heap.size, 1, none⟩ = some (slv h n 0) := cell_alloc (C0.row.cell (i := 1) (by omega)) (.cells #[] 9)
  have e1 : (Z1.alloc (.cells #[] 4)).cell? ⟨w.heap.size, 2, none⟩ = some (slv h n 1) := cell_alloc (N1.st.row.cell (i := 2) (by omega)) (.cells #[] 4)
  have e2 : (Z2.alloc (.cells #[] 4)).cell? ⟨w.heap.size, 3, none⟩ = some (slv h n 2) := cell_alloc (N2.st.row.cell (i := 3) (by omega)) (.cells #[] 4)
  have e3 : (Z3.alloc (.cells #[] 4)).cell? ⟨w.heap.size, 4, none⟩ = some (slv h n 3) := cell_alloc (N3.st.row.cell (i := 4) (by omega)) (.cells #[] 4)
  have x1 : w1.cell? ⟨w.heap.size, 1, none⟩ = some (slv h n 0) := N1.c
  have x2 : w2.cell? ⟨w.heap.size, 2, none⟩ = some (slv h n 1) := N2.c
  have x3 : w3.cell? ⟨w.heap.size, 3, none⟩ = some (slv h n 2) := N3.c
  have x4 : w4.cell? ⟨w.heap.size, 4, none⟩ = some (slv h n 3) := N4.c
  have z1 := N1.z
  have z2 := N2.z
  have z3 := N3.z
  have z4 := N4.z
  have f0 : Z4.cell? ⟨w.heap.size, 0, none⟩ = some (.int .i64 (v.root : Int)) := N4.st.row.cell (i := 0) (by omega)
  have f1 : Z4.cell? ⟨w.heap.size, 1, none⟩ = some (.slice (some ⟨b1, 0, none⟩) n c1) := N4.st.row.cell (i := 1) (by omega)
  have f2 : Z4.cell? ⟨w.heap.size, 2, none⟩ = some (.slice (some ⟨b2, 0, none⟩) n c2) := N4.st.row.cell (i := 2) (by omega)
  have f3 : Z4.cell? ⟨w.heap.size, 3, none⟩ = some (.slice (some ⟨b3, 0, none⟩) n c3) := N4.st.row.cell (i := 3) (by omega)
  have f4 : Z4.cell? ⟨w.heap.size, 4, none⟩ = some (.slice (some ⟨b4, 0, none⟩) n c4) := N4.st.row.cell (i := 4) (by omega)
  have f5 : Z4.cell? ⟨w.heap.size, 5, none⟩ = some (.bool v.so) := N4.st.row.cell (i := 5) (by omega)
  have t0 : Z4.cell? ⟨w.heap.size + 1, 0, none⟩ = some (.int .i64 0) := N4.st.res.cell (i := 0) (by omega)
  have t1 : Z4.cell? ⟨w.heap.size + 1, 1, none⟩ = some (.slice none 0 0) := N4.st.res.cell (i := 1) (by omega)
  have t2 : Z4.cell? ⟨w.heap.size + 1, 2, none⟩ = some (.slice none 0 0) := N4.st.res.cell (i := 2) (by omega)
  have t3 : Z4.cell? ⟨w.heap.size + 1, 3, none⟩ = some (.slice none 0 0) := N4.st.res.cell (i := 3) (by omega)
  have t4 : Z4.cell? ⟨w.heap.size + 1, 4, none⟩ = some (.slice none 0 0) := N4.st.res.cell (i := 4) (by omega)
  have t5 : Z4.cell? ⟨w.heap.size + 1, 5, none⟩ = some (.bool false) := N4.st.res.cell (i := 5) (by omega)
  have y0 := N4.st.res.frozen 0
  have y1 := N4.st.res.frozen 1
  have y2 := N4.st.res.frozen 2
  have y3 := N4.st.res.frozen 3
  have y4 := N4.st.res.frozen 4
  have y5 := N4.st.res.frozen 5
  have HN := Lib.hid (And.intro C0 (And.intro N1 (And.intro N2 (And.intro N3 N4))))
  have HS := Lib.hid (And.intro hY (And.intro S1 (And.intro S2 (And.intro S3 S4))))
  clear C0 N1 N2 N3 N4 hYs g1 g2 g3
  have R1 := Lib.hid r1
  have R2 := Lib.hid r2
  have R3 := Lib.hid r3
  have R4 := Lib.hid r4
  rw [S1] at e1 
  rw [S2] at e2
  rw [S3] at e3
  rw [hY] at e0
  rw [S4] at f0 f1 f2 f3 f4 f5 t0 t1 t2 t3 t4 t5 y0 y1 y2 y3 y4 y5
  clear hr r1 r2 r3 r4 hY S1 S2 S3 S4
  go_enter Tryz.func46, Tryz.ntmps46
  go_wp2_with (first
    | (at_builtin; rw [← HS.out.2.2.2.1]; refine wpList_append_ran rfl (.tmp 18) (.tmp 20) 71 rfl _ _ rfl rfl R4.out ?_)
    | (at_builtin; rw [← HS.out.2.2.1]; refine wpList_append_ran rfl (.tmp 13) (.tmp 15) 71 rfl _ _ rfl rfl R3.out ?_)
    | (at_builtin; rw [← HS.out.2.1]; refine wpList_append_ran rfl (.tmp 8) (.tmp 10) 71 rfl _ _ rfl rfl R2.out ?_)
    | (at_builtin; rw [← HS.out.1]; refine wpList_append_ran rfl (.tmp 3) (.tmp 5) 59 rfl _ _ rfl rfl R1.out ?_))
  change bodyPost Tryz.prog Tryz.f46 _ Exit.ret _ (World.setCells _ (w.heap.size + 1) 0 [.int .i64 (v.root : Int), .slice (some ⟨b1, 0, none⟩) n c1, .slice (some ⟨b2, 0, none⟩) n c2, .slice (some ⟨b3, 0, none⟩) n c3, .slice (some ⟨b4, 0, none⟩) n c4, .bool v.so])
  rw [← HS.out.2.2.2.2]
  obtain ⟨L, hL⟩ : ∃ L : List Value, L = [.int .i64 (v.root : Int), .slice (some ⟨b1, 0, none⟩) n c1, .slice (some ⟨b2, 0, none⟩) n c2, .slice (some ⟨b3, 0, none⟩) n c3, .slice (some ⟨b4, 0, none⟩) n c4, .bool v.so] := ⟨_, rfl⟩
  rw [← hL]
  obtain ⟨C0, N1, N2, N3, N4⟩ := HN.out
  have hfin := rowIs_setCells L 0 _ N4.st.res
  have hfr := setCells_fr (w.heap.size + 1) L 0 Z4
  have hLn : L.length = 6 := by rw [hL]; rfl
  have hk : ∀ j, j < Z4.heap.size → j ≠ w.heap.size + 1 → (Z4.setCells (w.heap.size + 1) 0 L).heap[j]? = Z4.heap[j]? := fun j hj hne => hfr.block j hj hne
  have hC0 := C0.two
  have l1 := N1.lo
  have l2 := N2.lo
  have l3 := N3.lo
  have l4 := N4.lo
  have q1 := N1.row.lt
  have q2 := N2.row.lt
  have q3 := N3.row.lt
  have q4 := N4.row.lt
  have s1 : Y.heap.size ≤ Z1.heap.size := by omega
  have s2 : Z1.heap.size ≤ Z2.heap.size := by omega
  have s3 : Z2.heap.size ≤ Z3.heap.size := by omega
  have s4 : Z3.heap.size ≤ Z4.heap.size := by omega
  refine bodyPost_ret (results_c1 rfl (w.heap.size + 1) L _ rfl (fun j u hj => ?_) Tryz.underlying73 rfl (by rw [hLn]; kernel_rfl)) rfl ?_
  · have hj6 : j < 6 := by have := (List.getElem?_eq_some_iff.1 hj).1; omega
    rw [Nat.zero_add, hfin.cell hj6, if_pos (by omega)]
    rw [Nat.sub_zero, hj]; rfl
  refine ⟨⟨fun i => if i = 0 then b1 else if i = 1 then b2 else if i = 2 then b3 else b4, fun i => if i = 0 then c1 else if i = 1 then c2 else if i = 2 then c3 else c4⟩, by rw [hL]; rfl, fun i hi => ?_, fun i hi => ?_, fun i j hi hj e => ?_, N4.st.bel.trans (hfr.below N4.st.bel.size fun k e => by omega)⟩
  · rcases (by omega : i = 0 ∨ i = 1 ∨ i = 2 ∨ i = 3) with rfl | rfl | rfl | rfl
    · exact (((N1.row.of_block (N2.kp _ (by omega) (by omega))).of_block (N3.kp _ (by omega) (by omega))).of_block (N4.kp _ (by omega) (by omega))).of_block (hk _ (by omega) (by omega))
    · exact ((N2.row.of_block (N3.kp _ (by omega) (by omega))).of_block (N4.kp _ (by omega) (by omega))).of_block (hk _ (by omega) (by omega))
    · exact (N3.row.of_block (N4.kp _ (by omega) (by omega))).of_block (hk _ (by omega) (by omega))
    · exact N4.row.of_block (hk _ (by omega) (by omega))
  · rcases (by omega : i = 0 ∨ i = 1 ∨ i = 2 ∨ i = 3) with rfl | rfl | rfl | rfl
    · show w.heap.size ≤ b1; omega
    · show w.heap.size ≤ b2; omega
    · show w.heap.size ≤ b3; omega
    · show w.heap.size ≤ b4; omega
  · have e' : (if i = 0 then b1 else if i = 1 then b2 else if i = 2 then b3 else b4) = (if j = 0 then b1 else if j = 1 then b2 else if j = 2 then b3 else b4) := e
    rcases (by omega : i = 0 ∨ i = 1 ∨ i = 2 ∨ i = 3) with rfl | rfl | rfl | rfl <;> rcases (by omega : j = 0 ∨ j = 1 ∨ j = 2 ∨ j = 3) with rfl | rfl | rfl | rfl <;> first | rfl | (simp at e'; omega)
end Go.Proofs.YtnpebfolmdbipaaGreatDoor.Sk

namespace Go.Proofs.YtnpebfolmdbipaaGreatDoor.Sk
set_option maxRecDepth 8000
set_option linter.unusedVariables false
set_option linter.unusedSimpArgs false
open Go.RowKit Mem Go.ChangeMaps
open Dk (cod elem cod_inj elem_mk elem_inv key key_inj wf_key keyed3 MapIs Fr ptr hmf cell_alloc cell_alloc_new zero42 IsD Dsk Lay drewN_cell Kp ref_zero newD newY)
/-! ### The document's store in memory -/
inductive RRole where
  | store | now (i : Nat) | marks | const
structure RLay where
  now : Vh
  was : Vh
  mv : Value
  ms : List (Vh × Rv)
  role : Nat → Option RRole
structure Rst where
  now : Rv
  was : Rv
  marks : List Rv
def RLay.foot (y : RLay) (k : Nat) : Prop := y.role k ≠ none
def rcells (n : Nat) (y : RLay) (r : Rst) (i : Nat) : Value := if i < 6 then vcell n r.now y.now i else if i < 12 then vcell n r.was y.was (i - 6) else y.mv
def vcs (n : Nat) (x : Vh × Rv) : List Value := [.int .i64 (x.2.root : Int), slv x.1 n 0, slv x.1 n 1, slv x.1 n 2, slv x.1 n 3, .bool x.2.so]
def mcl (n : Nat) (l : List (Vh × Rv)) : List Value := l.flatMap (vcs n)
structure IsR (w : World) (rb n : Nat) (y : RLay) (r : Rst) : Prop where
  row : w.rowIs rb 77 13 (rcells n y r)
  now : RowsAt w n y.now r.now
  was : RowsAt w n y.was r.was
  mks : w.ownsRow 0 73 6 y.mv y.ms.length (mcl n y.ms)
  mm : y.ms.map Prod.snd = r.marks
  mr : ∀ x, x ∈ y.ms → RowsAt w n x.1 x.2
  rs : y.role rb = some .store
  rn : ∀ i, i < 4 → y.role (y.now.b i) = some (.now i)
  rws : ∀ i, i < 4 → y.role (y.was.b i) = some .const
  rm : ∀ x, x ∈ y.ms → ∀ i, i < 4 → y.role (x.1.b i) = some .const
  ro : ∀ k, y.mv.ownBlock = some k → y.role k = some .marks
  foot : ∀ k, y.foot k → k < w.heap.size
  n0 : 2 < n
  n2 : n ≤ 4096
section
variable {w w' : World} {rb n : Nat} {y y' : RLay} {r r' : Rst}
theorem IsR.mlen (h : IsR w rb n y r) : y.ms.length = r.marks.length := by rw [← h.mm, List.length_map]
theorem IsR.c0 (h : IsR w rb n y r) : w.cell? ⟨rb, 0, none⟩ = some (.int .i64 (r.now.root : Int)) := h.row.cell (i := 0) (by omega)
theorem IsR.c1 (h : IsR w rb n y r) : w.cell? ⟨rb, 1, none⟩ = some (.slice (some ⟨y.now.b 0, 0, none⟩) n (y.now.c 0)) := h.row.cell (i := 1) (by omega)
theorem IsR.c2 (h : IsR w rb n y r) : w.cell? ⟨rb, 2, none⟩ = some (.slice (some ⟨y.now.b 1, 0, none⟩) n (y.now.c 1)) := h.row.cell (i := 2) (by omega)
theorem IsR.c3 (h : IsR w rb n y r) : w.cell? ⟨rb, 3, none⟩ = some (.slice (some ⟨y.now.b 2, 0, none⟩) n (y.now.c 2)) := h.row.cell (i := 3) (by omega)
theorem IsR.c4 (h : IsR w rb n y r) : w.cell? ⟨rb, 4, none⟩ = some (.slice (some ⟨y.now.b 3, 0, none⟩) n (y.now.c 3)) := h.row.cell (i := 4) (by omega)
theorem IsR.c5 (h : IsR w rb n y r) : w.cell? ⟨rb, 5, none⟩ = some (.bool r.now.so) := h.row.cell (i := 5) (by omega)
theorem IsR.c12 (h : IsR w rb n y r) : w.cell? ⟨rb, 12, none⟩ = some y.mv := h.row.cell (i := 12) (by omega)
theorem IsR.tk (h : IsR w rb n y r) {p : Nat} (hp : p < n) : w.cell? ⟨y.now.b 1, p, none⟩ = some (.bool (r.now.tk p)) := (h.now 1 (by omega)).cell hp
theorem IsR.ow (h : IsR w rb n y r) {p : Nat} (hp : p < n) : w.cell? ⟨y.now.b 2, p, none⟩ = some (.bool (r.now.ow p)) := (h.now 2 (by omega)).cell hp
theorem IsR.he (h : IsR w rb n y r) {p : Nat} (hp : p < n) : w.cell? ⟨y.now.b 3, p, none⟩ = some (.bool (r.now.he p)) := (h.now 3 (by omega)).cell hp
theorem IsR.tx (h : IsR w rb n y r) {p : Nat} (hp : p < n) : w.cell? ⟨y.now.b 0, p, none⟩ = some (.string (str (r.now.tx p))) := (h.now 0 (by omega)).cell hp
theorem IsR.room (h : IsR w rb n y r) (i : Nat) (hi : i < 4) : n ≤ y.now.c i ∧ y.now.c i ≤ maxLen := (h.now i hi).room
theorem IsR.fz (h : IsR w rb n y r) (i j : Nat) (hi : i < 4) : w.frozen? ⟨y.now.b i, j, none⟩ = false := (h.now i hi).frozen j
theorem IsR.fs (h : IsR w rb n y r) (j : Nat) : w.frozen? ⟨rb, j, none⟩ = false := h.row.frozen j
theorem IsR.frb (h : IsR w rb n y r) : y.foot rb := by unfold RLay.foot; rw [h.rs]; simp
theorem IsR.fnow (h : IsR w rb n y r) (i : Nat) (hi : i < 4) : y.foot (y.now.b i) := by unfold RLay.foot; rw [h.rn i hi]; simp
/-- Where nothing of it has turned. -/
theorem IsR.of_blocks (h : IsR w rb n y r) (hs : w.heap.size ≤ w'.heap.size) (hk : ∀ k, y.foot k → w'.heap[k]? = w.heap[k]?) : IsR w' rb n y r :=
  { h with
    row := h.row.of_block (hk _ h.frb)
    now := h.now.keep fun i hi => hk _ (h.fnow i hi)
    was := h.was.keep fun i hi => hk _ (by unfold RLay.foot; rw [h.rws i hi]; simp)
    mks := Dk.owns_of_block h.mks fun k e => hk _ (by unfold RLay.foot; rw [h.ro k e]; simp)
    mr := fun x hx => (h.mr x hx).keep fun i hi => hk _ (by unfold RLay.foot; rw [h.rm x hx i hi]; simp)
    foot := fun k hk2 => Nat.lt_of_lt_of_le (h.foot k hk2) hs }
theorem IsR.below (h : IsR w rb n y r) (hb : Below w.heap.size w w') : IsR w' rb n y r := h.of_blocks hb.size fun k hk => hb.block k (h.foot k hk)
theorem IsR.drew (h : IsR w rb n y r) : IsR w.drew rb n y r := h.below (Below.refl _ w).drew
/-- A store into one of the four rows of what is now. -/
theorem IsR.setRow (h : IsR w rb n y r) (i p : Nat) (hi : i < 4) (hp : p < n) (u : Value) (v' : Rv) (hv : ∀ j, j < n → rowv v' i j = if j = p then u else rowv r.now i j) (ho : ∀ k, k < 4 → k ≠ i → ∀ j, j < n → rowv v' k j = rowv r.now k j) (h1 : v'.root = r.now.root) (h2 : v'.so = r.now.so) :
    IsR (w.setCell ⟨y.now.b i, p, none⟩ u) rb n y { r with now := v' } := by
  have hk : ∀ k, y.role k ≠ some (.now i) → (w.setCell ⟨y.now.b i, p, none⟩ u).heap[k]? = w.heap[k]? := fun k hk => Below.heap_setCell _ _ _ _ (fun e => hk (by rw [e]; exact h.rn i hi))
  exact { h with
    row := ((h.row.of_block (hk rb (by rw [h.rs]; simp)))).congr fun j hj => by
      unfold rcells
      split
      · rcases (by omega : j = 0 ∨ j = 1 ∨ j = 2 ∨ j = 3 ∨ j = 4 ∨ j = 5) with rfl | rfl | rfl | rfl | rfl | rfl
        · show Value.int .i64 (r.now.root : Int) = .int .i64 (v'.root : Int); rw [h1]
        all_goals first | rfl | (show Value.bool r.now.so = .bool v'.so; rw [h2])
      · rfl
    now := fun k hk2 => by
      by_cases e : k = i
      · subst e
        exact ((h.now k hk2).set p hp u).congr fun j hj => (hv j hj).symm
      · exact ((h.now k hk2).of_block (hk _ (by rw [h.rn k hk2]; simpa using e))).congr fun j hj => (ho k hk2 e j hj).symm
    was := h.was.keep fun k hk2 => hk _ (by rw [h.rws k hk2]; simp)
    mks := Dk.owns_of_block h.mks fun k e => hk _ (by rw [h.ro k e]; simp)
    mr := fun x hx => (h.mr x hx).keep fun k hk2 => hk _ (by rw [h.rm x hx k hk2]; simp)
    foot := fun k hk2 => by have := h.foot k hk2; simpa [World.setCell] using this }
theorem IsR.rowKf (h : IsR w rb n y r) (i p : Nat) (hi : i < 4) (u : Value) : Kf y.foot w (w.setCell ⟨y.now.b i, p, none⟩ u) y.foot :=
  ⟨Fr.setCell w _ (fun _ => h.fnow i hi) u, fun _ _ e => e⟩
def Rv.setTk (v : Rv) (p : Nat) (b : Bool) : Rv := { v with tk := fun j => if j = p then b else v.tk j }
def Rv.setOw (v : Rv) (p : Nat) (b : Bool) : Rv := { v with ow := fun j => if j = p then b else v.ow j }
def Rv.setHe (v : Rv) (p : Nat) (b : Bool) : Rv := { v with he := fun j => if j = p then b else v.he j }
def Rv.setTx (v : Rv) (p : Nat) (l : List UInt8) : Rv := { v with tx := fun j => if j = p then l else v.tx j }
theorem IsR.setTk (h : IsR w rb n y r) (p : Nat) (hp : p < n) (b : Bool) : IsR (w.setCell ⟨y.now.b 1, p, none⟩ (.bool b)) rb n y { r with now := r.now.setTk p b } :=
  h.setRow 1 p (by omega) hp _ _ (fun j _ => by show Value.bool (if j = p then b else _) = _; split <;> rfl) (fun k hk hne j _ => by rcases (by omega : k = 0 ∨ k = 2 ∨ k = 3) with rfl | rfl | rfl <;> rfl) rfl rfl
theorem IsR.setOw (h : IsR w rb n y r) (p : Nat) (hp : p < n) (b : Bool) : IsR (w.setCell ⟨y.now.b 2, p, none⟩ (.bool b)) rb n y { r with now := r.now.setOw p b } :=
  h.setRow 2 p (by omega) hp _ _ (fun j _ => by show Value.bool (if j = p then b else _) = _; split <;> rfl) (fun k hk hne j _ => by rcases (by omega : k = 0 ∨ k = 1 ∨ k = 3) with rfl | rfl | rfl <;> rfl) rfl rfl
theorem IsR.setHe (h : IsR w rb n y r) (p : Nat) (hp : p < n) (b : Bool) : IsR (w.setCell ⟨y.now.b 3, p, none⟩ (.bool b)) rb n y { r with now := r.now.setHe p b } :=
  h.setRow 3 p (by omega) hp _ _ (fun j _ => by show Value.bool (if j = p then b else _) = _; split <;> rfl) (fun k hk hne j _ => by rcases (by omega : k = 0 ∨ k = 1 ∨ k = 2) with rfl | rfl | rfl <;> rfl) rfl rfl
theorem IsR.setTx (h : IsR w rb n y r) (p : Nat) (hp : p < n) (l : List UInt8) : IsR (w.setCell ⟨y.now.b 0, p, none⟩ (.string (str l))) rb n y { r with now := r.now.setTx p l } :=
  h.setRow 0 p (by omega) hp _ _ (fun j _ => by show Value.string (str (if j = p then l else _)) = _; split <;> rfl) (fun k hk hne j _ => by rcases (by omega : k = 1 ∨ k = 2 ∨ k = 3) with rfl | rfl | rfl <;> rfl) rfl rfl
/-- A store into one cell of its own. -/
theorem IsR.setOwn (h : IsR w rb n y r) (i : Nat) (u : Value) (hr : ∀ j, j < 13 → rcells n y r' j = if j = i then u else rcells n y r j) (h1 : ∀ k, k < 4 → ∀ j, rowv r'.now k j = rowv r.now k j) (h2 : r'.was = r.was) (h3 : r'.marks = r.marks) :
    IsR (w.setCell ⟨rb, i, none⟩ u) rb n y r' := by
  have hk : ∀ k, y.role k ≠ some .store → (w.setCell ⟨rb, i, none⟩ u).heap[k]? = w.heap[k]? := fun k hk => Below.heap_setCell _ _ _ _ (fun e => hk (by rw [e]; exact h.rs))
  exact { h with
    row := (h.row.set i u).congr fun j hj => (hr j hj).symm
    now := fun k hk2 => ((h.now k hk2).of_block (hk _ (by rw [h.rn k hk2]; simp))).congr fun j _ => (h1 k hk2 j).symm
    was := by rw [h2]; exact h.was.keep fun k hk2 => hk _ (by rw [h.rws k hk2]; simp)
    mks := Dk.owns_of_block h.mks fun k e => hk _ (by rw [h.ro k e]; simp)
    mm := by rw [h3]; exact h.mm
    mr := fun x hx => (h.mr x hx).keep fun k hk2 => hk _ (by rw [h.rm x hx k hk2]; simp)
    foot := fun k hk2 => by have := h.foot k hk2; simpa [World.setCell] using this }
theorem IsR.ownKf (h : IsR w rb n y r) (i : Nat) (u : Value) : Kf y.foot w (w.setCell ⟨rb, i, none⟩ u) y.foot := ⟨Fr.setCell w _ (fun _ => h.frb) u, fun _ _ e => e⟩
theorem rcells_low (n : Nat) (y : RLay) (r r' : Rst) (i : Nat) (h : r'.was = r.was) (hi : 6 ≤ i) : rcells n y r' i = rcells n y r i := by unfold rcells; simp only [show ¬ i < 6 by omega, if_false]; rw [h]
theorem IsR.setSo (h : IsR w rb n y r) (b : Bool) : IsR (w.setCell ⟨rb, 5, none⟩ (.bool b)) rb n y { r with now := { r.now with so := b } } :=
  h.setOwn 5 _ (fun j hj => by
    by_cases e : 6 ≤ j
    · rw [if_neg (by omega)]; exact rcells_low n y r _ j rfl e
    · rcases (by omega : j = 0 ∨ j = 1 ∨ j = 2 ∨ j = 3 ∨ j = 4 ∨ j = 5) with rfl | rfl | rfl | rfl | rfl | rfl <;> rfl) (fun k hk j => by rcases (by omega : k = 0 ∨ k = 1 ∨ k = 2 ∨ k = 3) with rfl | rfl | rfl | rfl <;> rfl) rfl rfl
theorem IsR.setRoot (h : IsR w rb n y r) (p : Nat) : IsR (w.setCell ⟨rb, 0, none⟩ (.int .i64 (p : Int))) rb n y { r with now := { r.now with root := p } } :=
  h.setOwn 0 _ (fun j hj => by
    by_cases e : 6 ≤ j
    · rw [if_neg (by omega)]; exact rcells_low n y r _ j rfl e
    · rcases (by omega : j = 0 ∨ j = 1 ∨ j = 2 ∨ j = 3 ∨ j = 4 ∨ j = 5) with rfl | rfl | rfl | rfl | rfl | rfl <;> rfl) (fun k hk j => by rcases (by omega : k = 0 ∨ k = 1 ∨ k = 2 ∨ k = 3) with rfl | rfl | rfl | rfl <;> rfl) rfl rfl
/-! ### Has, Left -/
def Rst.has (r : Rst) (n : Nat) (p : Int) : Bool := decide (2 ≤ p) && (decide (p < n) && r.now.tk p.toNat)
set_option maxHeartbeats 1000000 in
theorem rhas_any (h : IsR w rb n y r) (p : Int) : Calls Tryz.prog 57 #[.pointer (some ⟨rb, 0, none⟩), .int .i64 p] w fun e w' => e = .returned (.bool (r.has n p)) ∧ w' = w := by
  by_cases h2 : 2 ≤ p
  · obtain ⟨q, rfl⟩ := Int.eq_ofNat_of_zero_le (by omega : 0 ≤ p)
    by_cases hn : q < n
    · have e : r.has n (q : Int) = r.now.tk q := by
        unfold Rst.has; rw [Int.toNat_natCast, decide_eq_true h2, decide_eq_true (by omega)]; rfl
      rw [e]
      have c2 := h.c2
      have ct := h.tk hn
      have ro := h.room 1 (by omega)
      have hn' : (q : Int) < (n : Int) := by omega
      have h2n := h.n2
      clear e h
      go_enter Tryz.func57, Tryz.ntmps57
      go_wp2
      go_ret
      exact ⟨rfl, rfl⟩
    · have e : r.has n (q : Int) = false := by unfold Rst.has; rw [decide_eq_false (by omega : ¬ (q : Int) < n)]; simp
      rw [e]
      have c2 := h.c2
      have hn' : ¬ (q : Int) < (n : Int) := by omega
      have h2n := h.n2
      clear e h
      go_enter Tryz.func57, Tryz.ntmps57
      go_wp2
      go_ret
      exact ⟨rfl, rfl⟩
  · have e : r.has n p = false := by unfold Rst.has; rw [decide_eq_false h2]; rfl
    rw [e]
    clear e h
    go_enter Tryz.func57, Tryz.ntmps57
    go_wp2
    go_ret
    exact ⟨rfl, rfl⟩
/-- How many are free of the last j pages, and the first one. -/
def lfS (f : Nat → Bool) (n : Nat) : Nat → Nat × Nat
  | 0 => (0, 0)
  | j + 1 => if f (n - 1 - j) then ((lfS f n j).1 + 1, n - 1 - j) else lfS f n j
theorem lfS_le (f : Nat → Bool) (n j : Nat) : (lfS f n j).1 ≤ j := by
  induction j with
  | zero => exact Nat.le_refl _
  | succ j ih =>
    show (if f (n - 1 - j) then ((lfS f n j).1 + 1, n - 1 - j) else lfS f n j).1 ≤ j + 1
    split
    · show (lfS f n j).1 + 1 ≤ j + 1; omega
    · omega
def Rv.fre (v : Rv) (p : Nat) : Bool := !v.tk p && !v.he p
set_option maxHeartbeats 2000000 in
theorem rleft_any (h : IsR w rb n y r) : Calls Tryz.prog 53 #[.pointer (some ⟨rb, 0, none⟩)] w fun e w' => e = .returned (.tuple #[.int .i64 ((lfS r.now.fre n (n - 2)).1 : Int), .int .i64 ((lfS r.now.fre n (n - 2)).2 : Int)]) ∧ w' = w := by
  have c2 := h.c2
  have c4 := h.c4
  have r2 := h.room 1 (by omega)
  have r4 := h.room 3 (by omega)
  have h0 := h.n0
  have h2n := h.n2
  have H := Lib.hid h
  have hw0 : wrap64 ((n : Int) - 1) = (n : Int) - 1 := by unfold wrap64; omega
  clear h
  go_enter Tryz.func53, Tryz.ntmps53
  go_wp2
  go_loopw [4, 5, 6] (fun a b p wr => wr = w ∧ ∃ j : Nat, j ≤ n - 2 ∧ a = .int .i64 ((lfS r.now.fre n j).1 : Int) ∧ b = .int .i64 ((lfS r.now.fre n j).2 : Int) ∧ p = .int .i64 (((n - 1 - j : Nat) : Int))) (fun _ _ p _ => (intOf p).toNat)
  case atStart => exact ⟨rfl, 0, Nat.zero_le _, rfl, rfl, by congr 1; omega⟩
  case round =>
    obtain ⟨rfl, j, hj, rfl, rfl, rfl⟩ := hrel
    by_cases hlt : j < n - 2
    · obtain ⟨p, hp⟩ : ∃ p, p = n - 1 - j := ⟨_, rfl⟩
      rw [← hp]
      have hp2 : (2 : Int) ≤ (p : Int) := by omega
      have hpn : p < n := by omega
      have hpn' : (p : Int) < (n : Int) := by omega
      have ct := H.out.tk hpn
      have ce := H.out.he hpn
      have hw1 : wrap64 ((p : Int) - 1) = ((n - 1 - (j + 1) : Nat) : Int) := by unfold wrap64; omega
      have hl := lfS_le r.now.fre n j
      have hw2 : wrap64 (((lfS r.now.fre n j).1 : Int) + 1) = (((lfS r.now.fre n j).1 + 1 : Nat) : Int) := by unfold wrap64; omega
      have hs : lfS r.now.fre n (j + 1) = if r.now.fre p then ((lfS r.now.fre n j).1 + 1, p) else lfS r.now.fre n j := by rw [hp]; rfl
      have HS := Lib.hid hs
      have HP := Lib.hid hp
      have HL := Lib.hid hl
      generalize lfS r.now.fre n j = x at *
      obtain ⟨xa, xb⟩ := x
      have hf : r.now.fre p = (!r.now.tk p && !r.now.he p) := rfl
      rw [hf] at HS
      clear hs hp hl hf
      generalize r.now.tk p = bt at ct HS
      generalize r.now.he p = be at ce HS
      dsimp only at hw2 ⊢
      cases bt <;> cases be
      all_goals
        simp only [Bool.not_true, Bool.not_false, Bool.and_true, Bool.and_false, Bool.true_and, Bool.false_and, if_true, if_false, Bool.false_eq_true] at HS
        go_wp2
        go_roundw
        case rel => exact ⟨trivial, j + 1, by omega, by first | (rw [HS.out]; done) | (rw [HS.out]; first | rfl | exact congrArg (Value.int .i64) hw2), by (try rw [HS.out]), by congr 1; have := HP.out; omega⟩
        case measure => simp [intOf]; omega
    · obtain rfl : j = n - 2 := by omega
      have h1 : ¬ (2 : Int) ≤ ((n - 1 - (n - 2) : Nat) : Int) := by omega
      go_wp2
      go_ret2
      exact ⟨rfl, rfl⟩
end
end Go.Proofs.YtnpebfolmdbipaaGreatDoor.Sk

namespace Go.Proofs.YtnpebfolmdbipaaGreatDoor.Sk
set_option maxRecDepth 8000
set_option linter.unusedVariables false
set_option linter.unusedSimpArgs false
open Go.RowKit Mem Go.ChangeMaps
open Dk (cod elem cod_inj elem_mk elem_inv key key_inj wf_key keyed3 MapIs Fr ptr hmf cell_alloc cell_alloc_new zero42 IsD Dsk Lay drewN_cell Kp ref_zero newD newY)
/-! ### Take, Give, SetRoot of the document's store -/
theorem lfS_what (f : Nat → Bool) (n j : Nat) (hj : j ≤ n) (hn : 0 < n) :
    ((lfS f n j).1 = 0 ∧ (lfS f n j).2 = 0 ∧ ∀ q, n - j ≤ q → q < n → f q = false) ∨ (0 < (lfS f n j).1 ∧ (lfS f n j).2 < n ∧ n - j ≤ (lfS f n j).2 ∧ f (lfS f n j).2 = true ∧ ∀ q, n - j ≤ q → q < (lfS f n j).2 → f q = false) := by
  induction j with
  | zero => exact .inl ⟨rfl, rfl, fun q h1 h2 => by omega⟩
  | succ j ih =>
    have e : lfS f n (j + 1) = if f (n - 1 - j) then ((lfS f n j).1 + 1, n - 1 - j) else lfS f n j := rfl
    rw [e]
    have ih := ih (by omega)
    by_cases hf : f (n - 1 - j) = true
    · rw [if_pos hf]
      exact .inr ⟨by show 0 < _ + 1; omega, by show n - 1 - j < n; omega, by show n - (j + 1) ≤ n - 1 - j; omega, hf, fun q h1 h2 => by have h2 : q < n - 1 - j := h2; omega⟩
    · rw [if_neg hf]
      have hf' : f (n - 1 - j) = false := by simpa using hf
      rcases ih with ⟨a, b, c⟩ | ⟨a, b, c, d, g⟩
      · refine .inl ⟨a, b, fun q h1 h2 => ?_⟩
        by_cases e2 : q = n - 1 - j
        · rw [e2]; exact hf'
        · exact c q (by omega) h2
      · refine .inr ⟨a, b, by omega, d, fun q h1 h2 => ?_⟩
        by_cases e2 : q = n - 1 - j
        · rw [e2]; exact hf'
        · exact g q (by omega) h2
def Rst.take (r : Rst) (p : Nat) (l : List UInt8) : Rst := { r with now := { (((r.now.setTk p true).setOw p true).setTx p l) with so := true } }
def Rst.give (r : Rst) (p : Nat) : Rst := { r with now := { (((r.now.setTk p false).setHe p (!r.now.ow p)).setOw p false) with so := true } }
def Rst.setRoot (r : Rst) (p : Nat) : Rst := { r with now := { r.now with root := p, so := true } }
/-- Take's answers, and what it does. -/
def Rst.numT (r : Rst) (n : Nat) (l : List UInt8) : Nat := if 4011 < l.length then 0 else if (lfS r.now.fre n (n - 2)).1 = 0 then 0 else (lfS r.now.fre n (n - 2)).2
def Rst.ansT (r : Rst) (n : Nat) (l : List UInt8) : Int := if 4011 < l.length then 2 else if (lfS r.now.fre n (n - 2)).1 = 0 then 3 else 0
def Rst.doT (r : Rst) (n : Nat) (l : List UInt8) : Rst := if r.ansT n l = 0 then r.take (lfS r.now.fre n (n - 2)).2 l else r
def Rst.badG (r : Rst) (n : Nat) (p : Int) : Bool := !r.has n p || decide (p = (r.now.root : Int))
def Rst.ansG (r : Rst) (n : Nat) (p : Int) : Int := if r.badG n p then 1 else 0
def Rst.doG (r : Rst) (n : Nat) (p : Int) : Rst := if r.badG n p then r else r.give p.toNat
def Rst.badR (r : Rst) (n : Nat) (p : Int) : Bool := decide (p ≠ 0) && !r.has n p
def Rst.ansR (r : Rst) (n : Nat) (p : Int) : Int := if r.badR n p then 1 else 0
def Rst.doR (r : Rst) (n : Nat) (p : Int) : Rst := if r.badR n p then r else r.setRoot p.toNat
section
variable {w w' : World} {rb n : Nat} {y y' : RLay} {r r' : Rst}
theorem has_lt {p : Int} (h : r.has n p = true) : 2 ≤ p ∧ p < n ∧ r.now.tk p.toNat = true := by
  simp [Rst.has] at h; exact h
set_option maxHeartbeats 2000000 in
theorem rtake_any (h : IsR w rb n y r) (l : List UInt8) (hl : l.length ≤ 6000) : Calls Tryz.prog 14 #[.pointer (some ⟨rb, 0, none⟩), .string (str l)] w fun e w' => e = .returned (.tuple #[.int .i64 (r.numT n l : Int), .int .i64 (r.ansT n l)]) ∧ IsR w' rb n y (r.doT n l) ∧ Kf y.foot w w' y.foot := by
  have hsz : (str l).size = l.length := Ref.str_size l
  have LF := Lib.hid (rleft_any h)
  by_cases h4 : 4011 < l.length
  · have e1 : r.numT n l = 0 := if_pos h4
    have e2 : r.ansT n l = 2 := if_pos h4
    have e3 : r.doT n l = r := if_neg (by rw [e2]; decide)
    rw [e1, e2, e3]
    have h4' : (4011 : Int) < (l.length : Int) := by omega
    have H := Lib.hid h
    clear h e1 e2 e3
    go_enter Tryz.func14, Tryz.ntmps14
    go_wp2
    go_ret2
    exact ⟨rfl, H.out, Kf.refl _ _⟩
  · have h4' : ¬ (4011 : Int) < (l.length : Int) := by omega
    have hwh := lfS_what r.now.fre n (n - 2) (by omega) (by have := h.n0; omega)
    rcases hwh with ⟨f1, f2, _⟩ | ⟨f1, f2, _⟩
    · have e1 : r.numT n l = 0 := by unfold Rst.numT; rw [if_neg h4, if_pos f1]
      have e2 : r.ansT n l = 3 := by unfold Rst.ansT; rw [if_neg h4, if_pos f1]
      have e3 : r.doT n l = r := if_neg (by rw [e2]; decide)
      rw [e1, e2, e3]
      rw [f1, f2] at LF
      have H := Lib.hid h
      clear h e1 e2 e3 f1 f2
      go_enter Tryz.func14, Tryz.ntmps14
      go_wp2_with (go_at_call 53; refine LF.out.mono ?_; rintro e w1 ⟨rfl, hw1⟩; obtain rfl := hw1.symm)
      go_ret2
      exact ⟨rfl, H.out, Kf.refl _ _⟩
    · have e1 : r.numT n l = (lfS r.now.fre n (n - 2)).2 := by unfold Rst.numT; rw [if_neg h4, if_neg (by omega)]
      have e2 : r.ansT n l = 0 := by unfold Rst.ansT; rw [if_neg h4, if_neg (by omega)]
      have e3 : r.doT n l = r.take (lfS r.now.fre n (n - 2)).2 l := if_pos e2
      rw [e1, e2, e3]
      generalize (lfS r.now.fre n (n - 2)).1 = c at LF f1
      generalize (lfS r.now.fre n (n - 2)).2 = p at LF f2 ⊢
      have hne : ¬ (c : Int) = 0 := by omega
      have h1 := h.setTk p f2 true
      have h2 := h1.setOw p f2 true
      have h3 := h2.setTx p f2 l
      have h5 := h3.setSo true
      have K := Lib.hid ((((h.rowKf 1 p (by omega) (.bool true)).trans (h1.rowKf 2 p (by omega) (.bool true))).trans (h2.rowKf 0 p (by omega) (.string (str l)))).trans (h3.ownKf 5 (.bool true)))
      have H5 := Lib.hid h5
      have hp' : (p : Int) < (n : Int) := by omega
      have hc2 := h.c2
      have ht := h.tk f2
      have hz := h.fz 1 p (by omega)
      have hc3 := h1.c3
      have ho := h1.ow f2
      have hz2 := h1.fz 2 p (by omega)
      have hc1 := h2.c1
      have hx := h2.tx f2
      have hz3 := h2.fz 0 p (by omega)
      have hc5 := h3.c5
      have hz5 := h3.fs 5
      have q1 := h.room 1 (by omega)
      have q2 := h.room 2 (by omega)
      have q0 := h.room 0 (by omega)
      have hn2 := h.n2
      clear h h1 h2 h3 h5 e1 e2 e3 f1
      go_enter Tryz.func14, Tryz.ntmps14
      go_wp2_with (go_at_call 53; refine LF.out.mono ?_; rintro e w1 ⟨rfl, hw1⟩; obtain rfl := hw1.symm)
      go_ret2
      exact ⟨rfl, H5.out, K.out⟩
set_option maxHeartbeats 2000000 in
theorem rroot_any (h : IsR w rb n y r) (p : Int) : Calls Tryz.prog 18 #[.pointer (some ⟨rb, 0, none⟩), .int .i64 p] w fun e w' => e = .returned (.int .i64 (r.ansR n p)) ∧ IsR w' rb n y (r.doR n p) ∧ Kf y.foot w w' y.foot := by
  have HA := Lib.hid (rhas_any h p)
  by_cases hb : r.badR n p = true
  · have e1 : r.ansR n p = 1 := if_pos hb
    have e2 : r.doR n p = r := if_pos hb
    rw [e1, e2]
    have hb2 : p ≠ 0 ∧ r.has n p = false := by simpa [Rst.badR] using hb
    have hp0 := hb2.1
    rw [hb2.2] at HA
    have H := Lib.hid h
    clear h e1 e2 hb hb2
    go_enter Tryz.func18, Tryz.ntmps18
    go_wp2_with (go_at_call 57; refine HA.out.mono ?_; rintro e w1 ⟨rfl, hw1⟩; obtain rfl := hw1.symm)
    go_ret
    exact ⟨rfl, H.out, Kf.refl _ _⟩
  · have e1 : r.ansR n p = 0 := if_neg hb
    have e2 : r.doR n p = r.setRoot p.toNat := if_neg hb
    rw [e1, e2]
    have hb2 : p ≠ 0 → r.has n p = true := by simpa [Rst.badR] using hb
    obtain ⟨q, rfl⟩ : ∃ q : Nat, p = q := by
      by_cases h0 : p = 0
      · exact ⟨0, by omega⟩
      · have := (has_lt (hb2 h0)).1
        exact Int.eq_ofNat_of_zero_le (by omega)
    have h1 := h.setRoot q
    have h2 := h1.setSo true
    have K := Lib.hid ((h.ownKf 0 (.int .i64 (q : Int))).trans (h1.ownKf 5 (.bool true)))
    have H2 := Lib.hid h2
    have c0 := h.c0
    have z0 := h.fs 0
    have c5 := h1.c5
    have z5 := h1.fs 5
    rw [Int.toNat_natCast]
    clear h h1 h2 e1 e2 hb
    by_cases h0 : q = 0
    · subst h0
      have c5' : (w.setCell ⟨rb, 0, none⟩ (.int .i64 0)).cell? ⟨rb, 5, none⟩ = _ := c5
      have z5' : (w.setCell ⟨rb, 0, none⟩ (.int .i64 0)).frozen? ⟨rb, 5, none⟩ = false := z5
      clear c5 z5
      go_enter Tryz.func18, Tryz.ntmps18
      go_wp2
      go_ret
      exact ⟨rfl, H2.out, K.out⟩
    · have h0' : ¬ (q : Int) = 0 := by omega
      rw [hb2 h0'] at HA
      clear hb2 h0
      go_enter Tryz.func18, Tryz.ntmps18
      go_wp2_with (go_at_call 57; refine HA.out.mono ?_; rintro e w1 ⟨rfl, hw1⟩; obtain rfl := hw1.symm)
      go_ret
      exact ⟨rfl, H2.out, K.out⟩
set_option maxHeartbeats 2000000 in
theorem rgive_any (h : IsR w rb n y r) (p : Int) : Calls Tryz.prog 16 #[.pointer (some ⟨rb, 0, none⟩), .int .i64 p] w fun e w' => e = .returned (.int .i64 (r.ansG n p)) ∧ IsR w' rb n y (r.doG n p) ∧ Kf y.foot w w' y.foot := by
  have HA := Lib.hid (rhas_any h p)
  have c0 := h.c0
  by_cases hh : r.has n p = true
  · rw [hh] at HA
    obtain ⟨q2, qn, qt⟩ := has_lt hh
    obtain ⟨q, rfl⟩ := Int.eq_ofNat_of_zero_le (by omega : 0 ≤ p)
    by_cases h0 : (q : Int) = (r.now.root : Int)
    · have hb : r.badG n (q : Int) = true := by unfold Rst.badG; rw [decide_eq_true h0]; simp
      have e1 : r.ansG n (q : Int) = 1 := if_pos hb
      have e2 : r.doG n (q : Int) = r := if_pos hb
      rw [e1, e2]
      have H := Lib.hid h
      have HQ := Lib.hid h0
      rw [← h0] at c0
      clear h e1 e2 hb hh h0 q2 qn qt
      go_enter Tryz.func16, Tryz.ntmps16
      go_wp2_with (go_at_call 57; refine HA.out.mono ?_; rintro e w1 ⟨rfl, hw1⟩; obtain rfl := hw1.symm)
      go_ret
      exact ⟨rfl, H.out, Kf.refl _ _⟩
    · have hb : r.badG n (q : Int) = false := by unfold Rst.badG; rw [decide_eq_false h0, hh]; rfl
      have e1 : r.ansG n (q : Int) = 0 := by unfold Rst.ansG; rw [hb]; rfl
      have e2 : r.doG n (q : Int) = r.give q := by unfold Rst.doG; rw [hb, Int.toNat_natCast]; rfl
      rw [e1, e2]
      have hqn : q < n := by omega
      obtain ⟨bo, hbo⟩ : ∃ bo, bo = r.now.ow q := ⟨_, rfl⟩
      obtain ⟨V, hV⟩ : ∃ V, V = w.setCell ⟨y.now.b 1, q, none⟩ (.bool false) := ⟨_, rfl⟩
      have h1 := h.setTk q hqn false
      have hk1 := h.rowKf 1 q (by omega) (.bool false)
      rw [← hV] at h1 hk1
      have h2 := h1.setHe q hqn (!bo)
      have h3 := h2.setOw q hqn false
      have h4 := h3.setSo true
      have K := Lib.hid (((hk1.trans (h1.rowKf 3 q (by omega) (.bool !bo))).trans ((h2.rowKf 2 q (by omega) (.bool false)).trans (h3.ownKf 5 (.bool true)))).trans (Kf.ofBelow y.foot (Below.refl _ _).drew))
      have H4 := Lib.hid (show IsR _ rb n y (r.give q) from by unfold Rst.give; rw [← hbo]; exact h4.drew)
      have hc2 := h.c2
      have ht := h.tk hqn
      have hz := h.fz 1 q (by omega)
      have hc4 := h1.c4
      have hc3 := h1.c3
      have ho : _ = some (Value.bool bo) := hbo ▸ h1.ow hqn
      have he := h1.he hqn
      have hz3 := h1.fz 3 q (by omega)
      have gc3 := h2.c3
      have go' := h2.ow hqn
      have gz := h2.fz 2 q (by omega)
      have hc5 := h3.c5
      have hz5 := h3.fs 5
      have q1 := h.room 1 (by omega)
      have q3 := h.room 3 (by omega)
      have q4 := h.room 2 (by omega)
      have hn2 := h.n2
      have HV := Lib.hid hV
      clear h h1 h2 h3 h4 e1 e2 hb hh hbo q2 qt hk1 hV
      go_enter Tryz.func16, Tryz.ntmps16
      go_wp2_with (go_at_call 57; refine HA.out.mono ?_; rintro e w1 ⟨rfl, hw1⟩; obtain rfl := hw1.symm)
      rw [← HV.out]
      go_still_tail 16, (by kernel_rfl)
      change wpList _ _ _ _ _ (World.drew _)
      go_wp2
      go_ret
      exact ⟨rfl, H4.out, K.out⟩
  · have hh' : r.has n p = false := by simpa using hh
    rw [hh'] at HA
    have hb : r.badG n p = true := by unfold Rst.badG; rw [hh']; rfl
    have e1 : r.ansG n p = 1 := if_pos hb
    have e2 : r.doG n p = r := if_pos hb
    rw [e1, e2]
    have H := Lib.hid h
    clear h e1 e2 hb hh hh'
    go_enter Tryz.func16, Tryz.ntmps16
    go_wp2_with (go_at_call 57; refine HA.out.mono ?_; rintro e w1 ⟨rfl, hw1⟩; obtain rfl := hw1.symm)
    go_ret
    exact ⟨rfl, H.out, Kf.refl _ _⟩
end
end Go.Proofs.YtnpebfolmdbipaaGreatDoor.Sk

namespace Go.Proofs.YtnpebfolmdbipaaGreatDoor.Sk
set_option maxRecDepth 8000
set_option linter.unusedVariables false
set_option linter.unusedSimpArgs false
open Go.RowKit Mem Go.ChangeMaps
open Dk (cod elem cod_inj elem_mk elem_inv key key_inj wf_key keyed3 MapIs Fr ptr hmf cell_alloc cell_alloc_new zero42 IsD Dsk Lay drewN_cell Kp ref_zero newD newY)
/-! ### Abort, Commit of the document's store -/
/-- The roles behind a copy that is what is now. -/
def nowRole (ρ : Nat → Option RRole) (h : Vh) (k : Nat) : Option RRole :=
  if k = h.b 0 then some (.now 0) else if k = h.b 1 then some (.now 1) else if k = h.b 2 then some (.now 2) else if k = h.b 3 then some (.now 3) else
  match ρ k with
  | some (.now _) => none
  | x => x
theorem nowRole_new {ρ : Nat → Option RRole} {h : Vh} (inj : ∀ i j, i < 4 → j < 4 → h.b i = h.b j → i = j) (i : Nat) (hi : i < 4) : nowRole ρ h (h.b i) = some (.now i) := by
  unfold nowRole
  rcases (by omega : i = 0 ∨ i = 1 ∨ i = 2 ∨ i = 3) with rfl | rfl | rfl | rfl
  · rw [if_pos rfl]
  · rw [if_neg (fun e => by have := inj _ _ (by omega) (by omega) e; omega), if_pos rfl]
  · rw [if_neg (fun e => by have := inj _ _ (by omega) (by omega) e; omega), if_neg (fun e => by have := inj _ _ (by omega) (by omega) e; omega), if_pos rfl]
  · rw [if_neg (fun e => by have := inj _ _ (by omega) (by omega) e; omega), if_neg (fun e => by have := inj _ _ (by omega) (by omega) e; omega), if_neg (fun e => by have := inj _ _ (by omega) (by omega) e; omega), if_pos rfl]
theorem nowRole_old {ρ : Nat → Option RRole} {h : Vh} {k : Nat} {x : RRole} (hk : ∀ i, i < 4 → k ≠ h.b i) (hr : ρ k = some x) (hx : ∀ i, x ≠ .now i) : nowRole ρ h k = some x := by
  unfold nowRole
  rw [if_neg (hk 0 (by omega)), if_neg (hk 1 (by omega)), if_neg (hk 2 (by omega)), if_neg (hk 3 (by omega)), hr]
  cases x with
  | now i => exact absurd rfl (hx i)
  | _ => rfl
theorem nowRole_foot {ρ : Nat → Option RRole} {h : Vh} {k : Nat} (hf : nowRole ρ h k ≠ none) : (∃ i, i < 4 ∧ k = h.b i) ∨ ρ k ≠ none := by
  unfold nowRole at hf
  by_cases e0 : k = h.b 0
  · exact .inl ⟨0, by omega, e0⟩
  by_cases e1 : k = h.b 1
  · exact .inl ⟨1, by omega, e1⟩
  by_cases e2 : k = h.b 2
  · exact .inl ⟨2, by omega, e2⟩
  by_cases e3 : k = h.b 3
  · exact .inl ⟨3, by omega, e3⟩
  rw [if_neg e0, if_neg e1, if_neg e2, if_neg e3] at hf
  refine .inr fun e => ?_
  rw [e] at hf; exact hf rfl
/-- The roles behind a copy that is kept. -/
def constRole (ρ : Nat → Option RRole) (h : Vh) (k : Nat) : Option RRole := if k = h.b 0 ∨ k = h.b 1 ∨ k = h.b 2 ∨ k = h.b 3 then some .const else ρ k
theorem constRole_new (ρ : Nat → Option RRole) (h : Vh) (i : Nat) (hi : i < 4) : constRole ρ h (h.b i) = some .const := by
  refine if_pos ?_
  rcases (by omega : i = 0 ∨ i = 1 ∨ i = 2 ∨ i = 3) with rfl | rfl | rfl | rfl <;> simp
theorem constRole_old (ρ : Nat → Option RRole) {h : Vh} {k : Nat} (hk : ∀ i, i < 4 → k ≠ h.b i) : constRole ρ h k = ρ k :=
  if_neg (fun e => e.elim (hk 0 (by omega)) fun e => e.elim (hk 1 (by omega)) fun e => e.elim (hk 2 (by omega)) (hk 3 (by omega)))
section
variable {w w' w1 : World} {rb n : Nat} {y y' : RLay} {r r' : Rst}
theorem IsR.lts (h : IsR w rb n y r) : (rb < w.heap.size) ∧ (∀ i, i < 4 → y.now.b i < w.heap.size) ∧ (∀ i, i < 4 → y.was.b i < w.heap.size) ∧ (∀ x, x ∈ y.ms → ∀ i, i < 4 → x.1.b i < w.heap.size) ∧ ∀ k, y.mv.ownBlock = some k → k < w.heap.size :=
  ⟨h.foot _ h.frb, fun i hi => h.foot _ (h.fnow i hi), fun i hi => h.foot _ (by unfold RLay.foot; rw [h.rws i hi]; simp), fun x hx i hi => h.foot _ (by unfold RLay.foot; rw [h.rm x hx i hi]; simp), fun k e => h.foot _ (by unfold RLay.foot; rw [h.ro k e]; simp)⟩
theorem vcs_at (n : Nat) (h : Vh) (v : Rv) (j : Nat) (hj : j < 6) : (vcs n (h, v))[j]? = some (vcell n v h j) := by
  rcases (by omega : j = 0 ∨ j = 1 ∨ j = 2 ∨ j = 3 ∨ j = 4 ∨ j = 5) with rfl | rfl | rfl | rfl | rfl | rfl <;> rfl
/-- A copy is what is now. -/
theorem IsR.newNow (h : IsR w rb n y r) (hb : Below w.heap.size w w1) {h' : Vh} {v : Rv} (hr : RowsAt w1 n h' v) (lo : ∀ i, i < 4 → w.heap.size ≤ h'.b i) (inj : ∀ i j, i < 4 → j < 4 → h'.b i = h'.b j → i = j) :
    IsR (w1.setCells rb 0 (vcs n (h', v))) rb n { y with now := h', role := nowRole y.role h' } { r with now := v } ∧ Kf y.foot w (w1.setCells rb 0 (vcs n (h', v))) (RLay.foot { y with now := h', role := nowRole y.role h' }) := by
  obtain ⟨l1, l2, l3, l4, l5⟩ := h.lts
  have hfr := setCells_fr rb (vcs n (h', v)) 0 w1
  have hsz : w.heap.size ≤ (w1.setCells rb 0 (vcs n (h', v))).heap.size := Nat.le_trans hb.size hfr.size
  have hk : ∀ k, k < w.heap.size → k ≠ rb → (w1.setCells rb 0 (vcs n (h', v))).heap[k]? = w.heap[k]? := fun k hk hne => (hfr.block k (Nat.lt_of_lt_of_le hk hb.size) hne).trans (hb.block k hk)
  have hne : ∀ k x, y.role k = some x → x ≠ .store → k ≠ rb := fun k x e hx e2 => by rw [e2, h.rs] at e; injection e with e; exact hx e.symm
  have hnew : ∀ k, k < w.heap.size → ∀ i, i < 4 → k ≠ h'.b i := fun k hk i hi e => by have := lo i hi; omega
  refine ⟨{ h with
    row := ?_
    now := fun i hi => (hr i hi).of_block (hfr.block _ (hr i hi).lt (fun e => by have := lo i hi; omega))
    was := h.was.keep fun i hi => hk _ (l3 i hi) (hne _ _ (h.rws i hi) (by simp))
    mks := Dk.owns_of_block h.mks fun k e => hk k (l5 k e) (hne _ _ (h.ro k e) (by simp))
    mr := fun x hx => (h.mr x hx).keep fun i hi => hk _ (l4 x hx i hi) (hne _ _ (h.rm x hx i hi) (by simp))
    rs := nowRole_old (hnew _ l1) h.rs (by simp)
    rn := fun i hi => nowRole_new inj i hi
    rws := fun i hi => nowRole_old (hnew _ (l3 i hi)) (h.rws i hi) (by simp)
    rm := fun x hx i hi => nowRole_old (hnew _ (l4 x hx i hi)) (h.rm x hx i hi) (by simp)
    ro := fun k e => nowRole_old (hnew _ (l5 k e)) (h.ro k e) (by simp)
    foot := fun k e => ?_ }, ⟨?_, fun k hk2 e => ?_⟩⟩
  · refine (rowIs_setCells _ 0 _ (h.row.of_block (hb.block _ l1))).congr fun j hj => ?_
    rw [if_pos (Nat.zero_le _), Nat.sub_zero]
    by_cases e : j < 6
    · rw [vcs_at n h' v j e]
      exact (if_pos e).symm
    · rw [List.getElem?_eq_none (by show 6 ≤ j; omega)]
      show rcells n y r j = _
      unfold rcells; simp only [e, if_false]
  · rcases nowRole_foot e with ⟨i, hi, rfl⟩ | e
    · exact Nat.lt_of_lt_of_le (hr i hi).lt hfr.size
    · exact Nat.lt_of_lt_of_le (h.foot k e) hsz
  · exact (Fr.ofBelow (F := y.foot) hb).trans hfr fun k _ e => e ▸ h.frb
  · rcases nowRole_foot e with ⟨i, hi, rfl⟩ | e
    · have := lo i hi; omega
    · exact e
/-- A copy is what was. -/
theorem IsR.newWas (h : IsR w rb n y r) (hb : Below w.heap.size w w1) {h' : Vh} {v : Rv} (hr : RowsAt w1 n h' v) (lo : ∀ i, i < 4 → w.heap.size ≤ h'.b i) :
    IsR (w1.setCells rb 6 (vcs n (h', v))) rb n { y with was := h', role := constRole y.role h' } { r with was := v } ∧ Kf y.foot w (w1.setCells rb 6 (vcs n (h', v))) (RLay.foot { y with was := h', role := constRole y.role h' }) := by
  obtain ⟨l1, l2, l3, l4, l5⟩ := h.lts
  have hfr := setCells_fr rb (vcs n (h', v)) 6 w1
  have hsz : w.heap.size ≤ (w1.setCells rb 6 (vcs n (h', v))).heap.size := Nat.le_trans hb.size hfr.size
  have hk : ∀ k, k < w.heap.size → k ≠ rb → (w1.setCells rb 6 (vcs n (h', v))).heap[k]? = w.heap[k]? := fun k hk hne => (hfr.block k (Nat.lt_of_lt_of_le hk hb.size) hne).trans (hb.block k hk)
  have hne : ∀ k x, y.role k = some x → x ≠ .store → k ≠ rb := fun k x e hx e2 => by rw [e2, h.rs] at e; injection e with e; exact hx e.symm
  have hnew : ∀ k, k < w.heap.size → ∀ i, i < 4 → k ≠ h'.b i := fun k hk i hi e => by have := lo i hi; omega
  have hfoot : ∀ k, RLay.foot { y with was := h', role := constRole y.role h' } k → (∃ i, i < 4 ∧ k = h'.b i) ∨ y.foot k := fun k e => by
    by_cases e2 : k = h'.b 0 ∨ k = h'.b 1 ∨ k = h'.b 2 ∨ k = h'.b 3
    · exact e2.elim (fun e2 => .inl ⟨0, by omega, e2⟩) fun e2 => e2.elim (fun e2 => .inl ⟨1, by omega, e2⟩) fun e2 => e2.elim (fun e2 => .inl ⟨2, by omega, e2⟩) (fun e2 => .inl ⟨3, by omega, e2⟩)
    · have e3 : constRole y.role h' k ≠ none := e
      unfold constRole at e3; rw [if_neg e2] at e3
      exact .inr e3
  refine ⟨{ h with
    row := ?_
    now := h.now.keep fun i hi => hk _ (l2 i hi) (hne _ _ (h.rn i hi) (by simp))
    was := fun i hi => (hr i hi).of_block (hfr.block _ (hr i hi).lt (fun e => by have := lo i hi; omega))
    mks := Dk.owns_of_block h.mks fun k e => hk k (l5 k e) (hne _ _ (h.ro k e) (by simp))
    mr := fun x hx => (h.mr x hx).keep fun i hi => hk _ (l4 x hx i hi) (hne _ _ (h.rm x hx i hi) (by simp))
    rs := (constRole_old _ (hnew _ l1)).trans h.rs
    rn := fun i hi => (constRole_old _ (hnew _ (l2 i hi))).trans (h.rn i hi)
    rws := fun i hi => constRole_new _ h' i hi
    rm := fun x hx i hi => (constRole_old _ (hnew _ (l4 x hx i hi))).trans (h.rm x hx i hi)
    ro := fun k e => (constRole_old _ (hnew _ (l5 k e))).trans (h.ro k e)
    foot := fun k e => ?_ }, ⟨?_, fun k hk2 e => ?_⟩⟩
  · refine (rowIs_setCells _ 6 _ (h.row.of_block (hb.block _ l1))).congr fun j hj => ?_
    by_cases e6 : 6 ≤ j
    · rw [if_pos e6]
      by_cases e : j < 12
      · rw [vcs_at n h' v (j - 6) (by omega)]
        show vcell n v h' (j - 6) = _
        unfold rcells; simp only [show ¬ j < 6 by omega, e, if_false, if_true]
      · rw [List.getElem?_eq_none (by show 6 ≤ j - 6; omega)]
        show rcells n y r j = _
        unfold rcells; simp only [show ¬ j < 6 by omega, e, if_false]
    · rw [if_neg e6]
      unfold rcells; simp only [show j < 6 by omega, if_true]
  · rcases hfoot k e with ⟨i, hi, rfl⟩ | e
    · exact Nat.lt_of_lt_of_le (hr i hi).lt hfr.size
    · exact Nat.lt_of_lt_of_le (h.foot k e) hsz
  · exact (Fr.ofBelow (F := y.foot) hb).trans hfr fun k _ e => e ▸ h.frb
  · rcases hfoot k e with ⟨i, hi, rfl⟩ | e
    · have := lo i hi; omega
    · exact e
/-- No marks. -/
theorem IsR.noMarks (h : IsR w rb n y r) : IsR (w.setCell ⟨rb, 12, none⟩ (.slice none 0 0)) rb n { y with mv := .slice none 0 0, ms := [] } { r with marks := [] } ∧ Kf y.foot w (w.setCell ⟨rb, 12, none⟩ (.slice none 0 0)) (RLay.foot { y with mv := .slice none 0 0, ms := [] }) := by
  have hk : ∀ k, y.role k ≠ some .store → (w.setCell ⟨rb, 12, none⟩ (.slice none 0 0)).heap[k]? = w.heap[k]? := fun k hk => Below.heap_setCell _ _ _ _ (fun e => hk (by rw [e]; exact h.rs))
  refine ⟨{ h with
    row := (h.row.set 12 _).congr fun j hj => ?_
    now := h.now.keep fun i hi => hk _ (by rw [h.rn i hi]; simp)
    was := h.was.keep fun i hi => hk _ (by rw [h.rws i hi]; simp)
    mks := World.ownsRow_nil _ _ _ _
    mm := rfl
    mr := fun x hx => by cases hx
    rm := fun x hx => by cases hx
    ro := fun k e => by cases e
    foot := fun k e => by have := h.foot k e; simpa [World.setCell] using this }, ⟨Fr.setCell w _ (fun _ => h.frb) _, fun _ _ e => e⟩⟩
  by_cases e : j = 12
  · subst e; rfl
  · rw [if_neg e]; unfold rcells
    by_cases e2 : j < 6
    · rw [if_pos e2, if_pos e2]
    · rw [if_neg e2, if_neg e2, if_pos (by omega), if_pos (by omega)]
def Rst.abort (r : Rst) : Rst := ⟨r.was, r.was, []⟩
def Rv.clear (v : Rv) (k : Nat) : Rv := { v with ow := fun j => if j < k then false else v.ow j, he := fun j => if j < k then false else v.he j }
def Rst.commit (r : Rst) (n : Nat) : Rst := ⟨{ r.now.clear n with so := false }, { r.now.clear n with so := false }, []⟩
set_option maxHeartbeats 2000000 in
theorem rabort_any (h : IsR w rb n y r) : Calls Tryz.prog 26 #[.pointer (some ⟨rb, 0, none⟩)] w fun e w' => e = .returned (.tuple #[]) ∧ ∃ y', IsR w' rb n y' r.abort ∧ Kf y.foot w w' y'.foot := by
  have CP := Lib.hid (copy_any w n r.was y.was h.was (by have := h.n0; omega) h.n2)
  have f0 : w.cell? ⟨rb, 6, none⟩ = some (.int .i64 (r.was.root : Int)) := h.row.cell (i := 6) (by omega)
  have f1 : w.cell? ⟨rb, 7, none⟩ = some (slv y.was n 0) := h.row.cell (i := 7) (by omega)
  have f2 : w.cell? ⟨rb, 8, none⟩ = some (slv y.was n 1) := h.row.cell (i := 8) (by omega)
  have f3 : w.cell? ⟨rb, 9, none⟩ = some (slv y.was n 2) := h.row.cell (i := 9) (by omega)
  have f4 : w.cell? ⟨rb, 10, none⟩ = some (slv y.was n 3) := h.row.cell (i := 10) (by omega)
  have f5 : w.cell? ⟨rb, 11, none⟩ = some (.bool r.was.so) := h.row.cell (i := 11) (by omega)
  have H := Lib.hid h
  clear h
  go_enter Tryz.func26, Tryz.ntmps26
  go_wp2_with (go_at_call 46; refine CP.out.mono ?_; rintro e w1 ⟨h', rfl, hr, lo, inj, hb⟩; have HH := Lib.hid (H.out.newNow hb hr lo inj); have g := (H.out.below hb); have t0 := g.row.cell (i := 0) (by omega); have t1 := g.row.cell (i := 1) (by omega); have t2 := g.row.cell (i := 2) (by omega); have t3 := g.row.cell (i := 3) (by omega); have t4 := g.row.cell (i := 4) (by omega); have t5 := g.row.cell (i := 5) (by omega); have z0 := g.fs 0; have z1 := g.fs 1; have z2 := g.fs 2; have z3 := g.fs 3; have z4 := g.fs 4; have z5 := g.fs 5; have k12 : (w1.setCells rb 0 (vcs n (h', r.was))).cell? ⟨rb, 12, none⟩ = some y.mv := HH.out.1.c12; have x12 := HH.out.1.fs 12; simp only [vcs, slv, World.setCells, Nat.zero_add, Nat.reduceAdd] at k12 x12; clear hr lo inj hb g)
  first | go_end0 | (simp only [Exit.inBlock, Exit.then]; refine bodyPost_ret (results_none rfl _ _ _) rfl ?_) | refine bodyPost_ret (results_none rfl _ _ _) rfl ?_
  have hm := HH.out.1.noMarks
  exact ⟨rfl, _, hm.1, HH.out.2.trans hm.2⟩
theorem Rv.clear_fields (v : Rv) (k : Nat) : (v.clear k).root = v.root ∧ (v.clear k).tx = v.tx ∧ (v.clear k).tk = v.tk ∧ (v.clear k).so = v.so := ⟨rfl, rfl, rfl, rfl⟩
theorem clear_succ (v : Rv) (k : Nat) : ((v.clear k).setOw k false).setHe k false = v.clear (k + 1) := by
  unfold Rv.clear Rv.setOw Rv.setHe
  simp only [Rv.mk.injEq, true_and, and_true]
  refine ⟨funext fun j => ?_, funext fun j => ?_⟩
  · by_cases e : j = k
    · rw [if_pos e, if_pos (by omega)]
    · rw [if_neg e]
      by_cases e2 : j < k
      · rw [if_pos e2, if_pos (by omega)]
      · rw [if_neg e2, if_neg (by omega)]
  · by_cases e : j = k
    · rw [if_pos e, if_pos (by omega)]
    · rw [if_neg e]
      by_cases e2 : j < k
      · rw [if_pos e2, if_pos (by omega)]
      · rw [if_neg e2, if_neg (by omega)]
theorem clear_zero (v : Rv) : v.clear 0 = v := by
  unfold Rv.clear; simp
/-- Commit, under way. -/
structure CmI (w0 wr : World) (rb n : Nat) (y : RLay) (r : Rst) (k : Nat) : Prop where
  is : IsR wr rb n y { r with now := r.now.clear k }
  kf : Kf y.foot w0 wr y.foot
set_option maxHeartbeats 4000000 in
theorem rcommit_any (h : IsR w rb n y r) : Calls Tryz.prog 24 #[.pointer (some ⟨rb, 0, none⟩)] w fun e w' => e = .returned (.tuple #[]) ∧ ∃ y', IsR w' rb n y' (r.commit n) ∧ Kf y.foot w w' y'.foot := by
  have C0 := Lib.hid (show CmI w w rb n y r 0 from ⟨by rw [clear_zero]; exact h, Kf.refl _ _⟩)
  have h0 := h.n0
  have h2n := h.n2
  have q2 := h.room 1 (by omega)
  have q3 := h.room 2 (by omega)
  have q4 := h.room 3 (by omega)
  clear h
  go_enter Tryz.func24, Tryz.ntmps24
  go_wp2
  go_loopw [2] (fun v wr => ∃ k : Nat, k ≤ n ∧ v = .int .i64 (k : Int) ∧ Hid (CmI w wr rb n y r k)) (fun v _ => n - (intOf v).toNat)
  case atStart => exact ⟨0, Nat.zero_le _, rfl, C0⟩
  case round =>
    clear C0
    obtain ⟨k, hk, rfl, C⟩ := hrel
    have c2 := C.out.is.c2
    by_cases hlt : k < n
    · have hlt' : (k : Int) < (n : Int) := by omega
      have h1 := C.out.is.setOw k hlt false
      have h2 := h1.setHe k hlt false
      have K := Lib.hid ((C.out.is.rowKf 2 k (by omega) (.bool false)).trans (h1.rowKf 3 k (by omega) (.bool false)))
      have H2 := Lib.hid (show CmI w _ rb n y r (k + 1) from ⟨by rw [← clear_succ]; exact h2, C.out.kf.trans K.out⟩)
      have c3 := C.out.is.c3
      have ho := C.out.is.ow hlt
      have z2 := C.out.is.fz 2 k (by omega)
      have c4 := h1.c4
      have he := h1.he hlt
      have z3 := h1.fz 3 k (by omega)
      clear h1 h2 K
      go_wp2
      go_roundw
      case rel => exact ⟨k + 1, by omega, by go_num, H2⟩
      case measure => simp [intOf]; omega
    · obtain rfl : k = n := by omega
      have hlt' : ¬ (k : Int) < (k : Int) := by omega
      have h3 := C.out.is.setSo false
      obtain ⟨V, hV⟩ : ∃ V, V = wr.setCell ⟨rb, 5, none⟩ (.bool false) := ⟨_, rfl⟩
      rw [← hV] at h3
      have c5 := C.out.is.c5
      have z5 := C.out.is.fs 5
      obtain ⟨v, hv⟩ : ∃ v : Rv, v = { r.now.clear k with so := false } := ⟨_, rfl⟩
      have H3 := Lib.hid (show IsR V rb k y { r with now := v } from by rw [hv]; exact h3)
      have KV := Lib.hid (show Kf y.foot w V y.foot from by rw [hV]; exact C.out.kf.trans (C.out.is.ownKf 5 _))
      have CP := Lib.hid (copy_any V k v y.now H3.out.now (by omega) h2n)
      have f0 : V.cell? ⟨rb, 0, none⟩ = some (.int .i64 (v.root : Int)) := H3.out.row.cell (i := 0) (by omega)
      have f1 : V.cell? ⟨rb, 1, none⟩ = some (slv y.now k 0) := H3.out.row.cell (i := 1) (by omega)
      have f2 : V.cell? ⟨rb, 2, none⟩ = some (slv y.now k 1) := H3.out.row.cell (i := 2) (by omega)
      have f3 : V.cell? ⟨rb, 3, none⟩ = some (slv y.now k 2) := H3.out.row.cell (i := 3) (by omega)
      have f4 : V.cell? ⟨rb, 4, none⟩ = some (slv y.now k 3) := H3.out.row.cell (i := 4) (by omega)
      have f5 : V.cell? ⟨rb, 5, none⟩ = some (.bool v.so) := H3.out.row.cell (i := 5) (by omega)
      have hE := Lib.hid (show r.commit k = ⟨v, v, []⟩ from by rw [hv]; rfl)
      have HV := Lib.hid hV
      clear h3 hv
      rw [hV] at f0 f1 f2 f3 f4 f5
      clear hV
      go_wp2_with (go_at_call 46; rw [← HV.out]; refine CP.out.mono ?_; rintro e w1 ⟨h', rfl, hr, lo, inj, hb⟩; have HH := Lib.hid (H3.out.newWas hb hr lo); have g := (H3.out.below hb); have t0 := g.row.cell (i := 6) (by omega); have t1 := g.row.cell (i := 7) (by omega); have t2 := g.row.cell (i := 8) (by omega); have t3 := g.row.cell (i := 9) (by omega); have t4 := g.row.cell (i := 10) (by omega); have t5 := g.row.cell (i := 11) (by omega); have z0 := g.fs 6; have z1 := g.fs 7; have z2 := g.fs 8; have z3 := g.fs 9; have z4 := g.fs 10; have z6 := g.fs 11; have k12 : (w1.setCells rb 6 (vcs k (h', v))).cell? ⟨rb, 12, none⟩ = some y.mv := HH.out.1.c12; have x12 := HH.out.1.fs 12; simp only [vcs, slv, World.setCells, Nat.zero_add, Nat.reduceAdd] at k12 x12; clear hr lo inj hb g)
      first | go_end0 | (simp only [Exit.inBlock, Exit.then]; refine bodyPost_ret (results_none rfl _ _ _) rfl ?_) | refine bodyPost_ret (results_none rfl _ _ _) rfl ?_
      have hm := HH.out.1.noMarks
      exact ⟨rfl, _, by rw [hE.out]; exact hm.1, KV.out.trans (HH.out.2.trans hm.2)⟩
end
end Go.Proofs.YtnpebfolmdbipaaGreatDoor.Sk

namespace Go.Proofs.YtnpebfolmdbipaaGreatDoor.Sk
set_option maxRecDepth 8000
set_option linter.unusedVariables false
set_option linter.unusedSimpArgs false
open Go.RowKit Mem Go.ChangeMaps
open Dk (cod elem cod_inj elem_mk elem_inv key key_inj wf_key keyed3 MapIs Fr ptr hmf cell_alloc cell_alloc_new zero42 IsD Dsk Lay drewN_cell Kp ref_zero newD newY)
/-! ### Mark of the document's store -/
theorem mcl_app (n : Nat) (l k : List (Vh × Rv)) : mcl n (l ++ k) = mcl n l ++ mcl n k := by unfold mcl; rw [List.flatMap_append]
theorem mcl_len (n : Nat) (l : List (Vh × Rv)) : (mcl n l).length = l.length * 6 := by
  induction l with
  | nil => rfl
  | cons x l ih =>
    show (vcs n x ++ mcl n l).length = _
    rw [List.length_append, ih, List.length_cons]
    show 6 + _ = _; omega
theorem mcl_at (n : Nat) : ∀ (l : List (Vh × Rv)) (i j : Nat) (x : Vh × Rv), l[i]? = some x → j < 6 → (mcl n l)[i * 6 + j]? = (vcs n x)[j]?
  | [], i, j, x, h, _ => by simp at h
  | z :: l, 0, j, x, h, hj => by
    simp at h; subst h
    show (vcs n z ++ mcl n l)[0 * 6 + j]? = _
    rw [Nat.zero_mul, Nat.zero_add, List.getElem?_append_left (by show j < 6; exact hj)]
  | z :: l, i + 1, j, x, h, hj => by
    have ih := mcl_at n l i j x (by simpa using h) hj
    show (vcs n z ++ mcl n l)[(i + 1) * 6 + j]? = _
    rw [List.getElem?_append_right (by show 6 ≤ _; omega)]
    show (mcl n l)[(i + 1) * 6 + j - 6]? = _
    rw [show (i + 1) * 6 + j - 6 = i * 6 + j by omega]; exact ih
theorem view_info : (Tryz.prog.info? 73).map (fun i => (i.zero, i.size, i.bytes)) = some (some (.agg #[.int .i64 0, .slice none 0 0, .slice none 0 0, .slice none 0 0, .slice none 0 0, .bool false]), 6, 112) := by kernel_rfl
/-- The roles behind a mark. -/
def markRole (ρ : Nat → Option RRole) (h : Vh) (v : Value) (k : Nat) : Option RRole := if v.ownBlock = some k then some .marks else constRole ρ h k
section
variable {w w' w1 W2 w2 : World} {rb n : Nat} {y y' : RLay} {r r' : Rst} {h' : Vh} {v' : Value}
theorem IsR.marked (h : IsR w rb n y r) (hb : Below w.heap.size w w1) (hr : RowsAt w1 n h' r.now) (lo : ∀ i, i < 4 → w.heap.size ≤ h'.b i) (hW : Below w1.heap.size w1 W2)
    (ho : w2.ownsRow 0 73 6 v' (y.ms.length + 1) (mcl n y.ms ++ vcs n (h', r.now))) (hg : W2.grownBy w2 y.mv.ownBlock) (hv : v'.ownBlock = y.mv.ownBlock ∨ v'.ownBlock = some W2.heap.size) :
    IsR (w2.setCell ⟨rb, 12, none⟩ v') rb n { y with mv := v', ms := y.ms ++ [(h', r.now)], role := markRole y.role h' v' } { r with marks := r.marks ++ [r.now] } ∧ Kf y.foot w (w2.setCell ⟨rb, 12, none⟩ v') (RLay.foot { y with mv := v', ms := y.ms ++ [(h', r.now)], role := markRole y.role h' v' }) := by
  obtain ⟨l1, l2, l3, l4, l5⟩ := h.lts
  have s1 := hb.size
  have s2 := hW.size
  have s3 := hg.size
  have hz : (w2.setCell ⟨rb, 12, none⟩ v').heap.size = w2.heap.size := by simp [World.setCell]
  have hk0 : ∀ k, k ≠ rb → (w2.setCell ⟨rb, 12, none⟩ v').heap[k]? = w2.heap[k]? := fun k hk => Below.heap_setCell _ _ _ _ hk
  have hk1 : ∀ k, k < w1.heap.size → y.mv.ownBlock ≠ some k → w2.heap[k]? = w1.heap[k]? := fun k hk hne => (hg.block k (by omega) (fun e => hne e.symm)).trans (hW.block k hk)
  have hk2 : ∀ k, k < w.heap.size → y.mv.ownBlock ≠ some k → w2.heap[k]? = w.heap[k]? := fun k hk hne => (hk1 k (by omega) hne).trans (hb.block k hk)
  have hmvn : ∀ k x, y.role k = some x → x ≠ .marks → y.mv.ownBlock ≠ some k := fun k x e hx e2 => by rw [h.ro k e2] at e; injection e with e; exact hx e.symm
  have hrbn : ∀ k x, y.role k = some x → x ≠ .store → k ≠ rb := fun k x e hx e2 => by rw [e2, h.rs] at e; injection e with e; exact hx e.symm
  have hv'n : ∀ k x, k < w.heap.size → y.role k = some x → x ≠ .marks → v'.ownBlock ≠ some k := fun k x hk e hx e2 => by
    rcases hv with e3 | e3
    · exact hmvn k x e hx (e3 ▸ e2)
    · rw [e3] at e2; injection e2 with e2; omega
  have hnew : ∀ k, k < w.heap.size → ∀ i, i < 4 → k ≠ h'.b i := fun k hk i hi e => by have := lo i hi; omega
  have hrole : ∀ k x, k < w.heap.size → y.role k = some x → x ≠ .marks → markRole y.role h' v' k = some x := fun k x hk e hx => by
    unfold markRole; rw [if_neg (hv'n k x hk e hx), constRole_old _ (hnew k hk)]; exact e
  have hblk : ∀ k x, k < w.heap.size → y.role k = some x → x ≠ .marks → x ≠ .store → (w2.setCell ⟨rb, 12, none⟩ v').heap[k]? = w.heap[k]? := fun k x hk e hx hx2 => (hk0 k (hrbn k x e hx2)).trans (hk2 k hk (hmvn k x e hx))
  have hhb : ∀ i, i < 4 → h'.b i < w1.heap.size := fun i hi => (hr i hi).lt
  have hv'h : ∀ i, i < 4 → v'.ownBlock ≠ some (h'.b i) := fun i hi e => by
    have q := hhb i hi
    have q2 := lo i hi
    rcases hv with e3 | e3
    · have := l5 _ (e3 ▸ e); omega
    · rw [e3] at e; injection e with e; omega
  have hmvh : ∀ i, i < 4 → y.mv.ownBlock ≠ some (h'.b i) := fun i hi e => by have := l5 _ e; have := lo i hi; omega
  have hfoot : ∀ k, RLay.foot { y with mv := v', ms := y.ms ++ [(h', r.now)], role := markRole y.role h' v' } k → v'.ownBlock = some k ∨ (∃ i, i < 4 ∧ k = h'.b i) ∨ y.foot k := fun k e => by
    by_cases e1 : v'.ownBlock = some k
    · exact .inl e1
    · have e3 : markRole y.role h' v' k ≠ none := e
      unfold markRole at e3; rw [if_neg e1] at e3
      by_cases e2 : k = h'.b 0 ∨ k = h'.b 1 ∨ k = h'.b 2 ∨ k = h'.b 3
      · exact .inr (.inl (e2.elim (fun e2 => ⟨0, by omega, e2⟩) fun e2 => e2.elim (fun e2 => ⟨1, by omega, e2⟩) fun e2 => e2.elim (fun e2 => ⟨2, by omega, e2⟩) (fun e2 => ⟨3, by omega, e2⟩)))
      · unfold constRole at e3; rw [if_neg e2] at e3
        exact .inr (.inr e3)
  have hv'lt : ∀ k, v'.ownBlock = some k → k < w2.heap.size := fun k e => (World.ownsRow.lt ho k e).2
  refine ⟨{ h with
    row := ?_
    now := h.now.keep fun i hi => hblk _ _ (l2 i hi) (h.rn i hi) (by simp) (by simp)
    was := h.was.keep fun i hi => hblk _ _ (l3 i hi) (h.rws i hi) (by simp) (by simp)
    mks := ?_
    mm := by show (y.ms ++ [(h', r.now)]).map Prod.snd = _; rw [List.map_append, h.mm]; rfl
    mr := fun x hx => ?_
    rs := hrole _ _ l1 h.rs (by simp)
    rn := fun i hi => hrole _ _ (l2 i hi) (h.rn i hi) (by simp)
    rws := fun i hi => hrole _ _ (l3 i hi) (h.rws i hi) (by simp)
    rm := fun x hx i hi => ?_
    ro := fun k e => if_pos e
    foot := fun k e => ?_ }, ⟨⟨?_, ?_, ?_, ?_, ?_⟩, fun k hk e => ?_⟩⟩
  · have hrow : w2.heap[rb]? = w.heap[rb]? := hk2 rb l1 (hmvn _ _ h.rs (by simp))
    refine ((h.row.of_block hrow).set 12 v').congr fun j hj => ?_
    by_cases e : j = 12
    · subst e; rfl
    · rw [if_neg e]; unfold rcells
      by_cases e2 : j < 6
      · rw [if_pos e2, if_pos e2]
      · rw [if_neg e2, if_neg e2, if_pos (by omega), if_pos (by omega)]
  · show (w2.setCell ⟨rb, 12, none⟩ v').ownsRow 0 73 6 v' (y.ms ++ [(h', r.now)]).length (mcl n (y.ms ++ [(h', r.now)]))
    rw [mcl_app, List.length_append]
    have e : mcl n [(h', r.now)] = vcs n (h', r.now) := by show vcs n (h', r.now) ++ [] = _; rw [List.append_nil]
    rw [e]
    exact Dk.owns_of_block ho fun k e => hk0 k (fun e2 => hv'n rb _ l1 h.rs (by simp) (e2 ▸ e))
  · rcases List.mem_append.1 hx with hx | hx
    · exact (h.mr x hx).keep fun i hi => hblk _ _ (l4 x hx i hi) (h.rm x hx i hi) (by simp) (by simp)
    · rw [List.mem_singleton] at hx
      subst hx
      exact hr.keep fun i hi => (hk0 _ (fun e => by have := lo i hi; omega)).trans (hk1 _ (hhb i hi) (hmvh i hi))
  · rcases List.mem_append.1 hx with hx | hx
    · exact hrole _ _ (l4 x hx i hi) (h.rm x hx i hi) (by simp)
    · rw [List.mem_singleton] at hx
      subst hx
      show markRole y.role h' v' (h'.b i) = _
      unfold markRole; rw [if_neg (hv'h i hi)]; exact constRole_new _ _ i hi
  · rw [hz]
    rcases hfoot k e with e | ⟨i, hi, rfl⟩ | e
    · exact hv'lt k e
    · have := hhb i hi; omega
    · have := h.foot k e; omega
  · exact hg.os.trans (hW.os.trans hb.os)
  · exact hg.tape.trans (hW.tape.trans hb.tape)
  · exact hg.output.trans (hW.output.trans hb.output)
  · rw [hz]; omega
  · intro k hk hf
    refine (hk0 k (fun e => hf (e ▸ h.frb))).trans (hk2 k hk fun e => hf ?_)
    unfold RLay.foot; rw [h.ro k e]; simp
  · rcases hfoot k e with e | ⟨i, hi, rfl⟩ | e
    · rcases hv with e3 | e3
      · unfold RLay.foot; rw [h.ro k (e3 ▸ e)]; simp
      · rw [e3] at e; injection e with e; omega
    · have := lo i hi; omega
    · exact e
theorem rmark_key (h : IsR w rb n y r) {A : Option Addr} {c : Nat} (hmv : y.mv = .slice A r.marks.length c) (hm : r.marks.length < 1000000) (w1 : World) (h' : Vh) (hr : RowsAt w1 n h' r.now) (lo : ∀ i, i < 4 → w.heap.size ≤ h'.b i) (hb : Below w.heap.size w w1) :
    ∃ A3 c3 w2, Hid ((Builtin.append_ #[75, 75] 75 #[.slice A r.marks.length c, .slice (some ⟨w1.heap.size, 0, none⟩) 1 1]).run Tryz.prog (w1.alloc (.cells #[.int .i64 (r.now.root : Int), .slice (some ⟨h'.b 0, 0, none⟩) n (h'.c 0), .slice (some ⟨h'.b 1, 0, none⟩) n (h'.c 1), .slice (some ⟨h'.b 2, 0, none⟩) n (h'.c 2), .slice (some ⟨h'.b 3, 0, none⟩) n (h'.c 3), .bool r.now.so] 73)) = .ok (.slice A3 (r.marks.length + 1) c3) w2) ∧
      w1.cell? ⟨rb, 12, none⟩ = some (.slice A r.marks.length c) ∧ w2.cell? ⟨rb, 12, none⟩ = some (.slice A r.marks.length c) ∧ w2.frozen? ⟨rb, 12, none⟩ = false ∧
      Hid (∃ y', IsR (w2.setCell ⟨rb, 12, none⟩ (.slice A3 (r.marks.length + 1) c3)) rb n y' { r with marks := r.marks ++ [r.now] } ∧ Kf y.foot w (w2.setCell ⟨rb, 12, none⟩ (.slice A3 (r.marks.length + 1) c3)) y'.foot) := by
  have hl := h.mlen
  obtain ⟨l1, l2, l3, l4, l5⟩ := h.lts
  obtain ⟨W2, hW2⟩ : ∃ W2, W2 = w1.alloc (.cells #[.int .i64 (r.now.root : Int), .slice (some ⟨h'.b 0, 0, none⟩) n (h'.c 0), .slice (some ⟨h'.b 1, 0, none⟩) n (h'.c 1), .slice (some ⟨h'.b 2, 0, none⟩) n (h'.c 2), .slice (some ⟨h'.b 3, 0, none⟩) n (h'.c 3), .bool r.now.so] 73) := ⟨_, rfl⟩
  have hW : Below w1.heap.size w1 W2 := hW2 ▸ (Below.refl _ w1).alloc (Nat.le_refl _) _
  have hO : W2.ownsRow 0 73 6 y.mv r.marks.length (mcl n y.ms) := by
    rw [← hl]
    exact Dk.owns_of_block h.mks fun k e => (hW.block k (Nat.lt_of_lt_of_le (l5 k e) hb.size)).trans (hb.block k (l5 k e))
  have hcell : ∀ j u, (vcs n (h', r.now))[j]? = some u → W2.cell? ((⟨w1.heap.size, 0, none⟩ : Addr).add j) = some u := fun j u hj => by
    rw [hW2, show (⟨w1.heap.size, 0, none⟩ : Addr).add j = ⟨w1.heap.size, j, none⟩ by unfold Addr.add; split <;> simp_all, cell_of_row _ _ _ _ _ _ (heap_alloc_new w1 _)]
    have hj6 : j < 6 := by have := (List.getElem?_eq_some_iff.1 hj).1; exact this
    rcases (by omega : j = 0 ∨ j = 1 ∨ j = 2 ∨ j = 3 ∨ j = 4 ∨ j = 5) with rfl | rfl | rfl | rfl | rfl | rfl <;> exact hj
  obtain ⟨it, hi1, hz, h2, h3⟩ := info_parts view_info
  obtain ⟨v', w2, hrun, r1, r2, _, r3⟩ := run_append_own_at (P := Tryz.prog) W2 0 75 75 73 it _ 6 112 Tryz.underlying75 hi1 hz h2 h3 rfl (by omega) y.mv r.marks.length (mcl n y.ms) hO ⟨w1.heap.size, 0, none⟩ 1 1 (vcs n (h', r.now)) rfl hcell (fun u hu => by
    simp only [vcs, slv, List.mem_cons, List.not_mem_nil, or_false] at hu
    rcases hu with rfl | rfl | rfl | rfl | rfl | rfl <;> rfl) (by unfold maxLen; omega) (by omega) (Nat.zero_le _)
  obtain ⟨A3, c3, rfl⟩ := own_len' r1
  have hM := h.marked hb hr lo hW (by rw [hl]; exact r1) r2 r3
  have hne : y.mv.ownBlock ≠ some rb := fun e => by have := h.ro rb e; rw [h.rs] at this; cases this
  have b2 : w2.heap[rb]? = w.heap[rb]? := (r2.block rb (by have := hW.size; have := hb.size; omega) (fun e => hne e.symm)).trans ((hW.block rb (by have := hb.size; omega)).trans (hb.block rb l1))
  rw [hmv] at hrun
  rw [hW2] at hrun
  refine ⟨A3, c3, w2, Lib.hid hrun, ?_, ?_, ?_, Lib.hid ⟨_, hM.1, hM.2⟩⟩
  · rw [← hmv]; exact (World.cell?_of_block (a := ⟨rb, 12, none⟩) (hb.block rb l1)).trans h.c12
  · rw [← hmv]; exact (World.cell?_of_block (a := ⟨rb, 12, none⟩) b2).trans h.c12
  · exact (World.frozen?_of_block (a := ⟨rb, 12, none⟩) b2).trans (h.fs 12)
def Rst.mark (r : Rst) : Rst := { r with marks := r.marks ++ [r.now] }
set_option maxHeartbeats 4000000 in
theorem rmark_any (h : IsR w rb n y r) (hm : r.marks.length < 1000000) : Calls Tryz.prog 20 #[.pointer (some ⟨rb, 0, none⟩)] w fun e w' => e = .returned (.int .i64 ((r.marks.length : Int) + 1)) ∧ ∃ y', IsR w' rb n y' r.mark ∧ Kf y.foot w w' y'.foot := by
  have hd := h.drew
  have CP := Lib.hid (copy_any w.drew n r.now y.now hd.now (by have := h.n0; omega) h.n2)
  obtain ⟨A, c, hmv⟩ := own_len' h.mks
  rw [h.mlen] at hmv
  have KEY := Lib.hid (rmark_key hd hmv hm)
  have c12 : w.cell? ⟨rb, 12, none⟩ = some (.slice A r.marks.length c) := hmv ▸ h.c12
  have f0 : w.cell? ⟨rb, 0, none⟩ = some (.int .i64 (r.now.root : Int)) := h.row.cell (i := 0) (by omega)
  have f1 : w.cell? ⟨rb, 1, none⟩ = some (slv y.now n 0) := h.row.cell (i := 1) (by omega)
  have f2 : w.cell? ⟨rb, 2, none⟩ = some (slv y.now n 1) := h.row.cell (i := 2) (by omega)
  have f3 : w.cell? ⟨rb, 3, none⟩ = some (slv y.now n 2) := h.row.cell (i := 3) (by omega)
  have f4 : w.cell? ⟨rb, 4, none⟩ = some (slv y.now n 3) := h.row.cell (i := 4) (by omega)
  have f5 : w.cell? ⟨rb, 5, none⟩ = some (.bool r.now.so) := h.row.cell (i := 5) (by omega)
  have KD := Lib.hid (Kf.ofBelow y.foot (Below.refl _ w).drew)
  have HMV := Lib.hid hmv
  have HMM := Lib.hid hm
  clear h hd hmv hm
  go_enter Tryz.func20, Tryz.ntmps20
  go_wp2
  go_region_law (first
    | (refine Dk.step_append_run rfl (.tmp 7) (.tmp 13) 75 rfl (.slice A r.marks.length c) (.slice (some ⟨w1.heap.size, 0, none⟩) 1 1) (by simp [Act.eval, Act.put]) (by simp [Act.eval, Act.put]) HX.out ?_)
    | (go_simp; go_at_call 46; refine CP.out.mono ?_; rintro e w1 ⟨h', rfl, hr, lo, inj, hb⟩; obtain ⟨A3, c3, w2, HX, k1, k2, k3, HF⟩ := KEY.out w1 h' hr lo hb; have k4 := cell_alloc k1 (.cells #[.int .i64 (r.now.root : Int), .slice (some ⟨h'.b 0, 0, none⟩) n (h'.c 0), .slice (some ⟨h'.b 1, 0, none⟩) n (h'.c 1), .slice (some ⟨h'.b 2, 0, none⟩) n (h'.c 2), .slice (some ⟨h'.b 3, 0, none⟩) n (h'.c 3), .bool r.now.so] 73); have k5 := World.cell?_setCell_same w2 _ (.slice A3 (r.marks.length + 1) c3) k2; clear hr lo inj hb))
  all_goals
    obtain ⟨y', hf1, hf2⟩ := HF.out
    have F := Lib.hid (And.intro hf1 hf2)
    clear hf1 hf2 HF
    go_wp2
    go_ret
    exact ⟨by go_num, y', F.out.1, KD.out.trans F.out.2⟩
/-! ### Back -/
def Rst.badB (r : Rst) (m : Int) : Bool := decide (m < 1) || decide ((r.marks.length : Int) < m)
def Rst.ansB (r : Rst) (m : Int) : Int := if r.badB m then 1 else 0
def Rst.back (r : Rst) (q : Nat) : Rst := match r.marks[q]? with
  | some v => ⟨v, r.was, r.marks.take (q + 1)⟩
  | none => r
def Rst.doB (r : Rst) (m : Int) : Rst := if r.badB m then r else r.back (m.toNat - 1)
theorem IsR.cutMarks (h : IsR w rb n y r) {A : Option Addr} {c m : Nat} (hmv : y.mv = .slice A r.marks.length c) (hm : m ≤ r.marks.length) :
    IsR (w.setCell ⟨rb, 12, none⟩ (.slice A m c)) rb n { y with mv := .slice A m c, ms := y.ms.take m } { r with marks := r.marks.take m } ∧ Kf y.foot w (w.setCell ⟨rb, 12, none⟩ (.slice A m c)) (RLay.foot { y with mv := .slice A m c, ms := y.ms.take m }) := by
  have hk : ∀ k, y.role k ≠ some .store → (w.setCell ⟨rb, 12, none⟩ (.slice A m c)).heap[k]? = w.heap[k]? := fun k hk => Below.heap_setCell _ _ _ _ (fun e => hk (by rw [e]; exact h.rs))
  have hl := h.mlen
  have ho : ∀ k, (Value.slice A m c).ownBlock = some k → y.mv.ownBlock = some k := fun k e => by
    rw [hmv]
    cases A with
    | none => cases e
    | some a => exact e
  refine ⟨{ h with
    row := (h.row.set 12 _).congr fun j hj => ?_
    now := h.now.keep fun i hi => hk _ (by rw [h.rn i hi]; simp)
    was := h.was.keep fun i hi => hk _ (by rw [h.rws i hi]; simp)
    mks := ?_
    mm := by show (y.ms.take m).map Prod.snd = r.marks.take m; rw [List.map_take, h.mm]
    mr := fun x hx => (h.mr x (List.mem_of_mem_take hx)).keep fun i hi => hk _ (by rw [h.rm x (List.mem_of_mem_take hx) i hi]; simp)
    rm := fun x hx => h.rm x (List.mem_of_mem_take hx)
    ro := fun k e => h.ro k (ho k e)
    foot := fun k e => by have := h.foot k e; simpa [World.setCell] using this }, ⟨Fr.setCell w _ (fun _ => h.frb) _, fun _ _ e => e⟩⟩
  · by_cases e : j = 12
    · subst e; rfl
    · rw [if_neg e]; unfold rcells
      by_cases e2 : j < 6
      · rw [if_pos e2, if_pos e2]
      · rw [if_neg e2, if_neg e2, if_pos (by omega), if_pos (by omega)]
  · have h1 : w.ownsRow 0 73 6 (.slice A r.marks.length c) r.marks.length (mcl n y.ms) := by have e := h.mks; rw [hmv, hl] at e; exact e
    have h2 := owns_cut h1 hm
    have e1 : (mcl n y.ms).take (m * 6) = mcl n (y.ms.take m) := by
      have e := List.take_append_drop m y.ms
      have e3 : mcl n y.ms = mcl n (y.ms.take m) ++ mcl n (y.ms.drop m) := by rw [← mcl_app, e]
      rw [e3]
      refine List.take_left' ?_
      rw [mcl_len, List.length_take, hl, Nat.min_eq_left hm]
    rw [e1] at h2
    have e2 : (y.ms.take m).length = m := by rw [List.length_take, hl, Nat.min_eq_left hm]
    show (w.setCell ⟨rb, 12, none⟩ (.slice A m c)).ownsRow 0 73 6 (.slice A m c) (y.ms.take m).length (mcl n (y.ms.take m))
    rw [e2]
    exact Dk.owns_of_block h2 fun k e => hk k (by rw [h.ro k (ho k e)]; simp)
theorem size73v (W : World) : (Go.sizeOf 73).run Tryz.prog W = .ok 6 W := sizeOf_of (by kernel_rfl) W
theorem cut75 {A : Option Addr} {n c a : Nat} (hc : (A = none ∧ n = 0 ∧ c = 0) ∨ (∃ g, A = some ⟨g, 0, none⟩) ∧ n ≤ c ∧ c ≤ maxLen) (ha : a ≤ n) (W : World) :
    (Instr.sliceAt 75 (.slice A n c) none (some (.int .i64 (a : Int))) none).run Tryz.prog W = .ok (.slice A a c) W := by
  have h2 := size73v W
  rcases hc with ⟨rfl, rfl, rfl⟩ | ⟨⟨g, rfl⟩, h3, h4⟩
  · obtain rfl : a = 0 := by omega
    go_simp
  · have f1 : (a : Int) ≤ (c : Int) := by omega
    go_simp
set_option maxHeartbeats 4000000 in
theorem rback_any (h : IsR w rb n y r) (m : Int) (hmm : r.marks.length < 1000000) : Calls Tryz.prog 22 #[.pointer (some ⟨rb, 0, none⟩), .int .i64 m] w fun e w' => e = .returned (.int .i64 (r.ansB m)) ∧ ∃ y', IsR w' rb n y' (r.doB m) ∧ Kf y.foot w w' y'.foot := by
  obtain ⟨A, c, hmv⟩ := own_len' h.mks
  rw [h.mlen] at hmv
  have c12 : w.cell? ⟨rb, 12, none⟩ = some (.slice A r.marks.length c) := hmv ▸ h.c12
  by_cases h1 : m < 1
  · have hb : r.badB m = true := by unfold Rst.badB; rw [decide_eq_true h1]; rfl
    have e1 : r.ansB m = 1 := if_pos hb
    have e2 : r.doB m = r := if_pos hb
    rw [e1, e2]
    have H := Lib.hid h
    clear h e1 e2 hb hmv
    go_enter Tryz.func22, Tryz.ntmps22
    go_wp2
    go_ret
    exact ⟨rfl, y, H.out, Kf.refl _ _⟩
  · by_cases h2 : (r.marks.length : Int) < m
    · have hb : r.badB m = true := by unfold Rst.badB; rw [decide_eq_true h2]; simp
      have e1 : r.ansB m = 1 := if_pos hb
      have e2 : r.doB m = r := if_pos hb
      rw [e1, e2]
      have H := Lib.hid h
      clear h e1 e2 hb hmv
      go_enter Tryz.func22, Tryz.ntmps22
      go_wp2
      go_ret
      exact ⟨rfl, y, H.out, Kf.refl _ _⟩
    · obtain ⟨q, rfl⟩ : ∃ q : Nat, m = (q : Int) + 1 := ⟨(m - 1).toNat, by omega⟩
      have hb : r.badB ((q : Int) + 1) = false := by unfold Rst.badB; rw [decide_eq_false h1, decide_eq_false h2]; rfl
      have hql : q < r.marks.length := by omega
      have hqy : q < y.ms.length := by rw [h.mlen]; exact hql
      obtain ⟨x, hx⟩ : ∃ x, y.ms[q]? = some x := ⟨_, List.getElem?_eq_getElem hqy⟩
      have hxr : r.marks[q]? = some x.2 := by rw [← h.mm, List.getElem?_map, hx]; rfl
      have e1 : r.ansB ((q : Int) + 1) = 0 := by unfold Rst.ansB; rw [hb]; rfl
      have e2 : r.doB ((q : Int) + 1) = ⟨x.2, r.was, r.marks.take (q + 1)⟩ := by
        unfold Rst.doB Rst.back; rw [hb, show ((q : Int) + 1).toNat - 1 = q by omega, hxr]; rfl
      rw [e1, e2]
      obtain ⟨xh, xv⟩ := x
      have hxm : (xh, xv) ∈ y.ms := List.mem_of_getElem? hx
      obtain ⟨g, rfl⟩ : ∃ g, A = some ⟨g, 0, none⟩ := by
        rcases h.mks.2 with ⟨e, e0⟩ | ⟨g, cap, cur, e, _⟩
        · omega
        · rw [hmv] at e; injection e with e; exact ⟨g, e⟩
      have hcap : r.marks.length ≤ c ∧ c ≤ maxLen := by
        rcases h.mks.2 with ⟨e, e0⟩ | ⟨g, cap, cur, e, _, _, q1, q2, _⟩
        · omega
        · rw [hmv] at e; injection e with e e3 e4; rw [h.mlen] at q1; exact ⟨by omega, by omega⟩
      have hcell : ∀ j, j < 6 → w.cell? ⟨g, q * 6 + j, none⟩ = some (vcell n xv xh j) := fun j hj => by
        have k1 := h.mks.cells (g := g) (by rw [hmv]; rfl) (q * 6 + j) (vcell n xv xh j) (by rw [mcl_at n y.ms q j (xh, xv) hx hj]; exact vcs_at n xh xv j hj)
        rwa [Mem.add_plain, Nat.zero_add] at k1
      have f0 : w.cell? ⟨g, q * 6, none⟩ = some (.int .i64 (xv.root : Int)) := hcell 0 (by omega)
      have f1 : w.cell? ⟨g, q * 6 + 1, none⟩ = some (slv xh n 0) := hcell 1 (by omega)
      have f2 : w.cell? ⟨g, q * 6 + 2, none⟩ = some (slv xh n 1) := hcell 2 (by omega)
      have f3 : w.cell? ⟨g, q * 6 + 3, none⟩ = some (slv xh n 2) := hcell 3 (by omega)
      have f4 : w.cell? ⟨g, q * 6 + 4, none⟩ = some (slv xh n 3) := hcell 4 (by omega)
      have f5 : w.cell? ⟨g, q * 6 + 5, none⟩ = some (.bool xv.so) := hcell 5 (by omega)
      have CP := Lib.hid (copy_any w n xv xh (h.mr _ hxm) (by have := h.n0; omega) h.n2)
      have CU := Lib.hid (fun W => cut75 (A := some ⟨g, 0, none⟩) (n := r.marks.length) (c := c) (a := q + 1) (.inr ⟨⟨g, rfl⟩, hcap.1, hcap.2⟩) (by omega) W)
      have hcu : ∀ W, (Instr.sliceAt 75 (.slice (some ⟨g, 0, none⟩) r.marks.length c) none (some (.int .i64 ((q : Int) + 1))) none).run Tryz.prog W = .ok (.slice (some ⟨g, 0, none⟩) (q + 1) c) W := fun W => by
        have := CU.out W; rwa [show (((q + 1 : Nat)) : Int) = (q : Int) + 1 by omega] at this
      have H := Lib.hid h
      have HMV := Lib.hid hmv
      have hq' : (q : Int) < (r.marks.length : Int) := by omega
      have hq0 : wrap64 ((q : Int) + 1 - 1) = (q : Int) := by unfold wrap64; omega
      clear h e1 e2 hb hmv hcell hx hxr hxm CU
      go_enter Tryz.func22, Tryz.ntmps22
      go_wp2_with (go_at_call 46; refine CP.out.mono ?_; rintro e w1 ⟨h', rfl, hr, lo, inj, hb⟩; have HH := Lib.hid (H.out.newNow hb hr lo inj); have g0 := (H.out.below hb); have t0 := g0.row.cell (i := 0) (by omega); have t1 := g0.row.cell (i := 1) (by omega); have t2 := g0.row.cell (i := 2) (by omega); have t3 := g0.row.cell (i := 3) (by omega); have t4 := g0.row.cell (i := 4) (by omega); have t5 := g0.row.cell (i := 5) (by omega); have z0 := g0.fs 0; have z1 := g0.fs 1; have z2 := g0.fs 2; have z3 := g0.fs 3; have z4 := g0.fs 4; have z5 := g0.fs 5; have k12 : (w1.setCells rb 0 (vcs n (h', xv))).cell? ⟨rb, 12, none⟩ = some (.slice (some ⟨g, 0, none⟩) r.marks.length c) := HMV.out ▸ HH.out.1.c12; have x12 := HH.out.1.fs 12; simp only [vcs, slv, World.setCells, Nat.zero_add, Nat.reduceAdd] at k12 x12; clear hr lo inj hb g0)
      go_ret
      have hc := HH.out.1.cutMarks (A := some ⟨g, 0, none⟩) (c := c) (m := q + 1) HMV.out (by show q + 1 ≤ r.marks.length; omega)
      exact ⟨rfl, _, hc.1, HH.out.2.trans hc.2⟩
end
end Go.Proofs.YtnpebfolmdbipaaGreatDoor.Sk

