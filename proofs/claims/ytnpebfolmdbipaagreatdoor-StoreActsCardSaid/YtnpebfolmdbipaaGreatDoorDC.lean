import Derived.Test.YtnpebfolmdbipaaGreatDoorDB
import Derived.Laws.CopyOwn
import Derived.Laws.BitsLemmas
namespace Go.Proofs.YtnpebfolmdbipaaGreatDoor.Dk
set_option maxRecDepth 8000
set_option linter.unusedVariables false
set_option linter.unusedSimpArgs false
open Go.RowKit Mem Go.ChangeMaps
variable {w : World} {db : Nat} {y : Lay} {d : Dsk}

theorem i64_and1 (n : Int) : bits .and .i64 n 1 = n % 2 := by
  have h1 : (BitVec.ofInt 64 1).toNat = 2 ^ 1 - 1 := by decide
  have key : (BitVec.ofInt 64 n &&& BitVec.ofInt 64 1).toNat = (n % ((2 ^ 64 : Nat) : Int)).toNat % 2 ^ 1 := by
    rw [BitVec.toNat_and, BitVec.toNat_ofInt, h1, Nat.and_two_pow_sub_one_eq_mod]
  show IntKind.i64.wrap ((BitVec.ofInt 64 n &&& BitVec.ofInt 64 1).toNat : Nat) = n % 2
  rw [key, IntKind.wrap_i64]
  omega

/-- Is bit s of a fate 1? -/
def bit (f : Int) (s : Nat) : Bool := decide (f / 2 ^ s % 2 = 1)
/-- What lasts of a page, whose first k sectors are gone through. -/
def tornTo (f : Int) (a b : List UInt8) : Nat → List UInt8
  | 0 => a
  | k + 1 => if bit f k then splice (tornTo f a b k) (512 * k) ((b.drop (512 * k)).take 512) else tornTo f a b k
theorem tornTo_len (f : Int) (a b : List UInt8) (ha : a.length = 4096) (hb : b.length = 4096) : ∀ k, k ≤ 8 → (tornTo f a b k).length = 4096
  | 0, _ => ha
  | k + 1, h => by
    have ih := tornTo_len f a b ha hb k (by omega)
    unfold tornTo
    split
    · rw [length_splice]
      · exact ih
      · simp [ih, hb]; omega
    · exact ih
def torn (f : Int) (a b : List UInt8) : List UInt8 := tornTo f a b 8
/-- Byte by byte. -/
theorem tornTo_at (f : Int) (a b : List UInt8) (ha : a.length = 4096) (hb : b.length = 4096) : ∀ k, k ≤ 8 → ∀ i, i < 4096 → (tornTo f a b k).getD i 0 = if i / 512 < k ∧ bit f (i / 512) = true then b.getD i 0 else a.getD i 0
  | 0, _, i, _ => by simp [tornTo]
  | k + 1, h, i, hi => by
    have ih := tornTo_at f a b ha hb k (by omega) i hi
    have hl := tornTo_len f a b ha hb k (by omega)
    have hd : ∀ l : List UInt8, l.getD i 0 = (l[i]?).getD 0 := fun l => List.getD_eq_getElem?_getD
    by_cases hk : bit f k = true
    · rw [tornTo, if_pos hk]
      rw [hd] at ih ⊢
      by_cases h1 : i < 512 * k
      · have e1 : (splice (tornTo f a b k) (512 * k) ((b.drop (512 * k)).take 512))[i]? = (tornTo f a b k)[i]? := by
          rw [splice, List.getElem?_append_left (by simp [hl]; omega), List.getElem?_take_of_lt h1]
        rw [e1, ih]
        have e2 : i / 512 < k ↔ i / 512 < k + 1 := by omega
        simp only [e2]
      · by_cases h2 : i < 512 * k + 512
        · have e1 : (splice (tornTo f a b k) (512 * k) ((b.drop (512 * k)).take 512))[i]? = b[i]? := by
            rw [splice, List.getElem?_append_right (by simp [hl]; omega), List.getElem?_append_left (by simp [hl, hb]; omega)]
            simp only [List.length_take, hl, List.getElem?_take, List.getElem?_drop]
            rw [if_pos (by omega)]
            congr 1
            omega
          have e2 : i / 512 = k := by omega
          rw [e1, e2, if_pos ⟨by omega, hk⟩, hd]
        · have e1 : (splice (tornTo f a b k) (512 * k) ((b.drop (512 * k)).take 512))[i]? = (tornTo f a b k)[i]? := by
            rw [splice, List.getElem?_append_right (by simp [hl]; omega), List.getElem?_append_right (by simp [hl, hb]; omega)]
            simp only [List.length_take, hl, List.getElem?_drop, List.length_drop, hb]
            congr 1
            omega
          rw [e1, ih, if_neg (by omega), if_neg (by omega)]
    · rw [tornTo, if_neg hk, ih]
      by_cases h1 : i / 512 = k
      · rw [h1, if_neg (by omega), if_neg (by intro h; exact hk h.2)]
      · have e2 : i / 512 < k ↔ i / 512 < k + 1 := by omega
        simp only [e2]

/-- Page p, torn. -/
def Dsk.tornTo (d : Dsk) (p : Nat) (f : Int) (k : Nat) : Dsk := { d with last := fun j => if j = p then YtnpebfolmdbipaaGreatDoor.Dk.tornTo f (d.last p) (d.page p) k else d.last j }
def Dsk.torn (d : Dsk) (p : Nat) (f : Int) : Dsk := d.tornTo p f 8

theorem own_parts {w : World} {b c : Nat} {l : List UInt8} (h : Own 5 w 0 (.slice (some ⟨b, 0, none⟩) 4096 c) l) : l.length = 4096 ∧ 4096 ≤ c ∧ c ≤ maxLen ∧ ∃ cur, w.heap[b]? = some (.cells cur 5 (0, 0)) ∧ cur.size = c ∧ cur.toList.take 4096 = l.map bv := by
  have hl := own_len h
  rcases h.2 with ⟨e, _⟩ | ⟨g, cap, cur, e, _, hh, h1, h2, h3, h4⟩
  · cases e
  · injection e with e1 e2 e3
    injection e1 with e1
    injection e1 with e1
    subst e1 e3
    exact ⟨hl, by omega, h2, cur, hh, by omega, by rw [← h4, hl]⟩
theorem own_back {w : World} {b c : Nat} {l : List UInt8} {cur : Array Value} (hl : l.length = 4096) (hc : 4096 ≤ c) (hm : c ≤ maxLen) (hh : w.heap[b]? = some (.cells cur 5 (0, 0))) (hs : cur.size = c) (ht : cur.toList.take 4096 = l.map bv) :
    Own 5 w 0 (.slice (some ⟨b, 0, none⟩) 4096 c) l :=
  ⟨by simp, .inr ⟨b, c, cur, by rw [hl], Nat.zero_le _, hh, by omega, hm, by omega, by rw [hl]; exact ht⟩⟩

/-- A sector is copied. -/
theorem copySector (W : World) (ty : TypeId) (b c b' c' : Nat) (l l' : List UInt8) (ho : Own 5 W 0 (.slice (some ⟨b, 0, none⟩) 4096 c) l) (ho' : Own 5 W 0 (.slice (some ⟨b', 0, none⟩) 4096 c') l') (k : Nat) (hk : k < 8) (C C' : Nat) :
    ∃ w', (Builtin.copy_ #[36, 36] ty #[.slice (some ⟨b, 512 * k, none⟩) 512 C, .slice (some ⟨b', 512 * k, none⟩) 512 C']).run Tryz.prog W = .ok (.int .i64 512) w' ∧ Fr (fun j => j = b) W w' ∧ w'.heap.size = W.heap.size ∧
      Own 5 w' 0 (.slice (some ⟨b, 0, none⟩) 4096 c) (splice l (512 * k) ((l'.drop (512 * k)).take 512)) := by
  obtain ⟨hl, hc, hm, cur, hh, hs, ht⟩ := own_parts ho
  have hl' := own_len ho'
  have hX : ((l'.drop (512 * k)).take 512).length = 512 := by simp [hl']; omega
  have hr := run_copy_row (P := Tryz.prog) W 36 36 ty 5 b (512 * k) 512 C ⟨b', 512 * k, none⟩ 512 C' cur 5 (((l'.drop (512 * k)).take 512).map bv) Tryz.underlying36 u8_size hh (by rw [List.length_map, hX]; rfl)
    (fun j v hv => by
      have hj : j < 512 := by
        rcases Nat.lt_or_ge j 512 with h | h
        · exact h
        · rw [List.getElem?_eq_none (by rw [List.length_map, hX]; exact h)] at hv; cases hv
      rw [show (⟨b', 512 * k, none⟩ : Addr).add j = ⟨b', 512 * k + j, none⟩ by unfold Addr.add; split <;> simp_all, own_cell ho' (512 * k + j) (by omega)]
      rw [List.getElem?_map, List.getElem?_take_of_lt hj, List.getElem?_drop, List.getElem?_eq_getElem (by omega)] at hv
      exact hv)
    (by rw [List.length_map, hX]; omega) (by intro v hv; simp only [List.mem_map] at hv; obtain ⟨x, _, rfl⟩ := hv; rfl)
  rw [List.length_map, hX] at hr
  refine ⟨_, hr, ⟨rfl, rfl, rfl, by simp [World.setRow], fun j _ hj => setRow_other W b j _ hj⟩, by simp [World.setRow], ?_⟩
  have hcl : cur.toList.length = c := by simpa using hs
  refine own_back ?_ hc hm (setRow_heap W b cur _ 5 _ hh) (by simp [hl']; omega) ?_
  · rw [length_splice]
    · exact hl
    · rw [hX]; omega
  · have e1 : cur.toList = l.map bv ++ cur.toList.drop 4096 := by rw [← ht, List.take_append_drop]
    rw [List.toList_toArray, splice, hX]
    apply List.ext_getElem?
    intro j
    rw [List.getElem?_take]
    by_cases h1 : j < 4096
    · rw [if_pos h1]
      simp only [List.getElem?_append, List.length_append, List.length_take, List.length_map, hX, hcl, List.getElem?_map, List.map_append, List.map_take, List.map_drop, List.getElem?_take, List.getElem?_drop, List.length_drop, hl']
      have e3 : ∀ i, i < 4096 → cur.toList[i]? = (l[i]?).map bv := fun i hi => by
        rw [e1, List.getElem?_append_left (by simp [hl]; omega), List.getElem?_map]
      have m1 : min (512 * k) c = 512 * k := by omega
      have m2 : min (512 * k) 4096 = 512 * k := by omega
      have m3 : min 512 (4096 - 512 * k) = 512 := by omega
      rw [hl]
      simp only [m1, m2, m3]
      by_cases h2 : j < 512 * k
      · rw [if_pos (by omega), if_pos h2, if_pos h2, if_pos h2, if_pos h2]
        exact e3 j h1
      · by_cases h3 : j < 512 * k + 512
        · rw [if_pos h3, if_neg h2, if_neg h2, if_pos (by omega), if_pos (by omega)]
        · have g1 : ∀ n, n = j → cur.toList[n]? = Option.map bv (l[j]?) := fun n e => by subst e; exact e3 _ h1
          have g2 : ∀ n, n = j → Option.map bv (l[n]?) = Option.map bv (l[j]?) := fun n e => by subst e; rfl
          have q3 : ¬ j - 512 * k < 512 := by omega
          simp only [if_neg h3, if_neg h2, if_neg q3]
          exact (g1 _ (by omega)).trans (g2 _ (by omega)).symm
    · rw [if_neg h1]
      symm
      apply List.getElem?_eq_none
      simp [hl, hl']
      omega

/-- What lasts of page p is written in place. -/
theorem IsD.setLast {w' : World} (h : IsD w db y d) {p b c : Nat} (hp : p < d.n) (hL : y.L p = some (b, c)) {l : List UInt8} (hl : l.length = 4096) (hf : Fr (fun j => j = b) w w') (hs : w'.heap.size = w.heap.size) (ho : Own 5 w' 0 (.slice (some ⟨b, 0, none⟩) 4096 c) l) :
    IsD w' db y { d with last := fun j => if j = p then l else d.last j } ∧ Kp w y w' y := by
  have hb : y.role b = some (.page p) := by have := h.lastOk p hp; rw [hL] at this; exact this.1
  have hnb : ∀ {k r}, y.role k = some r → r ≠ .page p → k ≠ b := fun e hr e2 => hr (by subst e2; rw [hb] at e; cases e; rfl)
  have h1 : ∀ {k r}, y.role k = some r → k ≠ b → w'.heap[k]? = w.heap[k]? := fun e hn => hf.block _ (h.foot _ (by simp [Lay.foot, e])) hn
  refine ⟨{ h with
    row := h.row.of_block (h1 h.rdb (hnb h.rdb (by simp)))
    lasts := h.lasts.of_block (h1 h.rlb (hnb h.rlb (by simp)))
    waits := h.waits.of_block (h1 h.rmb (hnb h.rmb (by simp)))
    ord := owns_of_block h.ord fun k e => h1 (h.rob k e) (hnb (h.rob k e) (by simp))
    lastOk := fun j hj => ?_
    waitOk := fun j hj => ?_
    foot := fun k hk => hs ▸ h.foot k hk
    lastLen := fun j hj => ?_ }, Kp.same (hf.mono fun k _ e => by subst e; simp [Lay.foot, hb])⟩
  · show LastAt w' y.role j (y.L j) (if j = p then l else d.last j)
    by_cases e : j = p
    · subst e; rw [if_pos rfl, hL]; exact ⟨hb, ho⟩
    · rw [if_neg e]
      exact (h.lastOk j hj).of_block fun k e2 => h1 e2 (hnb e2 (by intro e3; injection e3 with e3; exact e e3))
  · by_cases e : j = p
    · subst e
      have := h.waitOk j hj
      rcases hM : y.M j with _ | ⟨b', c'⟩ <;> rcases hW : d.wait j with _ | l' <;> rw [hM, hW] at this
      · trivial
      · exact this.elim
      · exact this.elim
      · exact ⟨this.1, Own.of_block this.2 fun k e => by cases e; exact h1 this.1 (fun e => h.apart j b c b' c' hL hM e.symm)⟩
    · exact (h.waitOk j hj).of_block fun k e2 => h1 e2 (hnb e2 (by intro e3; injection e3 with e3; exact e e3))
  · show (if j = p then l else d.last j).length = 4096
    by_cases e : j = p
    · rw [if_pos e]; exact hl
    · rw [if_neg e]; exact h.lastLen j hj

/-- A page that was never written gets its row. -/
theorem IsD.grow (h : IsD w db y d) {p : Nat} (hp : p < d.n) (hL : y.L p = none) :
    ∃ y', IsD ((w.alloc (.cells (bcs zpage) 5)).setCell ⟨y.lb, p, none⟩ (.slice (some ⟨w.heap.size, 0, none⟩) 4096 4096)) db y' d ∧ Kp w y ((w.alloc (.cells (bcs zpage) 5)).setCell ⟨y.lb, p, none⟩ (.slice (some ⟨w.heap.size, 0, none⟩) 4096 4096)) y' ∧
      y'.m = y.m ∧ y'.M = y.M ∧ y'.ov = y.ov ∧ y'.mb = y.mb ∧ y'.L p = some (w.heap.size, 4096) := by
  obtain ⟨w', hw'⟩ : ∃ w', w' = (w.alloc (.cells (bcs zpage) 5)).setCell ⟨y.lb, p, none⟩ (.slice (some ⟨w.heap.size, 0, none⟩) 4096 4096) := ⟨_, rfl⟩
  rw [← hw']
  have hsz : w'.heap.size = w.heap.size + 1 := by rw [hw']; simp [World.setCell]
  have hnw : ∀ {k r}, y.role k = some r → k < w.heap.size := fun e => h.foot _ (by simp [Lay.foot, e])
  have hlb := hnw h.rlb
  have h1 : ∀ {k r}, y.role k = some r → r ≠ .lasts → w'.heap[k]? = w.heap[k]? := fun {k r} e hr => by
    rw [hw']
    exact (Below.heap_setCell _ _ _ _ (fun e2 => hr (by change k = y.lb at e2; subst e2; rw [h.rlb] at e; cases e; rfl))).trans (Below.heap_alloc _ _ _ (hnw e))
  have hr : ∀ {k r}, y.role k = some r → (if k = w.heap.size then some (Role.page p) else y.role k) = some r := fun {k r} e => by rw [if_neg (by have := hnw e; omega)]; exact e
  have hz : d.last p = zpage := by have := h.lastOk p hp; rw [hL] at this; exact this
  have hnew : w'.heap[w.heap.size]? = some (.cells (bcs zpage) 5 (0, 0)) := by
    rw [hw']
    exact (Below.heap_setCell _ _ _ _ (by show w.heap.size ≠ y.lb; omega)).trans (heap_alloc_new w _)
  refine ⟨{ y with L := fun j => if j = p then some (w.heap.size, 4096) else y.L j, role := fun k => if k = w.heap.size then some (.page p) else y.role k }, { h with
    row := h.row.of_block (h1 h.rdb (by simp))
    lasts := ?_
    waits := h.waits.of_block (h1 h.rmb (by simp))
    ord := owns_of_block h.ord fun k e => h1 (h.rob k e) (by simp)
    lastOk := fun j hj => ?_
    waitOk := fun j hj => ?_
    apart := fun j b c b' c' e e' => ?_
    rdb := hr h.rdb, rlb := hr h.rlb, rmb := hr h.rmb
    rob := fun k e => hr (h.rob k e)
    foot := fun k hk => ?_ }, ⟨?_, fun k hk hf => ?_⟩, rfl, rfl, rfl, rfl, by simp⟩
  · rw [hw']
    refine ((h.lasts.alloc _).set p _).congr fun j hj => ?_
    by_cases e : j = p
    · simp [e, sl]
    · simp [e]
  · show LastAt w' _ j (if j = p then some (w.heap.size, 4096) else y.L j) _
    by_cases e : j = p
    · subst e
      rw [if_pos rfl, hz]
      exact ⟨by simp, own_back zpage_len (Nat.le_refl _) (by unfold maxLen; omega) hnew (by rw [size_bcs, zpage_len]) (by
        rw [bcs, List.toList_toArray]; exact List.take_of_length_le (by rw [List.length_map, zpage_len]; exact Nat.le_refl _))⟩
    · rw [if_neg e]
      have := (h.lastOk j hj).of_block (w' := w') fun k e => h1 e (by simp)
      rcases hL : y.L j with _ | ⟨b, c⟩
      · rw [hL] at this; exact this
      · rw [hL] at this; exact ⟨hr this.1, this.2⟩
  · have := (h.waitOk j hj).of_block (w' := w') fun k e => h1 e (by simp)
    show WaitAt _ _ _ (y.M j) (d.wait j)
    rcases hL : y.M j with _ | ⟨b, c⟩ <;> rcases hW : d.wait j with _ | l <;> rw [hL, hW] at this
    · trivial
    · exact this
    · exact this
    · exact ⟨hr this.1, this.2⟩
  · change (if j = p then some (w.heap.size, 4096) else y.L j) = some (b, c) at e
    change y.M j = some (b', c') at e'
    by_cases e2 : j = p
    · subst e2
      rw [if_pos rfl] at e
      injection e with e
      injection e with e3 e4
      subst e3
      intro e3
      have := h.waitOk j hp
      rw [e'] at this
      rcases hW : d.wait j with _ | l
      · rw [hW] at this; exact this
      · rw [hW] at this; have := hnw this.1; omega
    · rw [if_neg e2] at e
      exact h.apart j b c b' c' e e'
  · by_cases e : k = w.heap.size
    · omega
    · have : y.foot k := by simpa [Lay.foot, e] using hk
      have := h.foot k this; omega
  · rw [hw']
    exact (Fr.alloc w _).trans (Fr.setCell (F := y.foot) _ _ (fun _ => h.flb) _) fun _ _ h => h
  · have e : k ≠ w.heap.size := by omega
    simpa [Lay.foot, e] using hf
end Go.Proofs.YtnpebfolmdbipaaGreatDoor.Dk
