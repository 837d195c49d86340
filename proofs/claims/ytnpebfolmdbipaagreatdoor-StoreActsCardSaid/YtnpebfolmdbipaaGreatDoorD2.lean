import Derived.Test.YtnpebfolmdbipaaGreatDoorDI
namespace Go.Proofs.YtnpebfolmdbipaaGreatDoor.Dk
set_option linter.unusedVariables false
set_option linter.unusedSimpArgs false
open Go.RowKit Mem Go.ChangeMaps

/-- A page of bytes 0. -/
def zpage : List UInt8 := List.replicate 4096 0
theorem zpage_len : zpage.length = 4096 := List.length_replicate

/-- Numbers, as Go's. -/
def ints (l : List Nat) : List Int := l.map fun (i : Nat) => (i : Int)
theorem ints_len (l : List Nat) : (ints l).length = l.length := List.length_map _
/-- A disk, as data. -/
structure Dsk where
  n : Nat
  last : Nat → List UInt8
  wait : Nat → Option (List UInt8)
  order : List Nat
  dead : Bool
  fuse : Option Nat

/-- Nothing but blocks of F has turned; the streams are as they were. -/
structure Fr (F : Nat → Prop) (w w' : World) : Prop where
  os : w'.os = w.os
  tape : w'.tape = w.tape
  output : w'.output = w.output
  size : w.heap.size ≤ w'.heap.size
  block : ∀ k, k < w.heap.size → ¬ F k → w'.heap[k]? = w.heap[k]?

section
variable {F G : Nat → Prop} {a w w' : World}
theorem Fr.refl (F : Nat → Prop) (w : World) : Fr F w w := ⟨rfl, rfl, rfl, Nat.le_refl _, fun _ _ _ => rfl⟩
theorem Fr.trans (h : Fr F a w) (k : Fr G w w') (hG : ∀ b, b < a.heap.size → G b → F b) : Fr F a w' :=
  ⟨k.os.trans h.os, k.tape.trans h.tape, k.output.trans h.output, Nat.le_trans h.size k.size, fun b hb hF => (k.block b (Nat.lt_of_lt_of_le hb h.size) (fun hg => hF (hG b hb hg))).trans (h.block b hb hF)⟩
theorem Fr.mono (h : Fr F w w') (hG : ∀ b, b < w.heap.size → F b → G b) : Fr G w w' := ⟨h.os, h.tape, h.output, h.size, fun b hb hF => h.block b hb (fun hf => hF (hG b hb hf))⟩
theorem Fr.alloc (w : World) (o : Obj) : Fr F w (w.alloc o) := ⟨rfl, rfl, rfl, by simp, fun k hk _ => Below.heap_alloc _ _ _ hk⟩
theorem Fr.setCell (w : World) (p : Addr) (hp : p.block < w.heap.size → F p.block) (u : Value) : Fr F w (w.setCell p u) :=
  ⟨rfl, rfl, rfl, by simp [World.setCell], fun k hk hF => Below.heap_setCell _ _ _ _ (fun e => hF (e ▸ hp (e ▸ hk)))⟩
theorem Fr.drew (h : Fr F a w) : Fr F a w.drew := ⟨h.os, h.tape, h.output, h.size, h.block⟩
theorem Fr.grown {row : Option Nat} (h : w.grownBy w' row) (hr : ∀ k, k < w.heap.size → row = some k → F k) : Fr F w w' :=
  ⟨h.os, h.tape, h.output, h.size, fun k hk hF => h.block k hk (fun e => hF (hr k hk e.symm))⟩
theorem Fr.turned {b : Nat} (h : w.mapTurned w' b) (hb : b < w.heap.size → F b) : Fr F w w' := Fr.grown h.grown (fun k hk e => by cases e; exact hb hk)
theorem Fr.ofBelow (h : Below w.heap.size w w') : Fr F w w' := ⟨h.os, h.tape, h.output, h.size, fun k hk _ => h.block k hk⟩
theorem Fr.below {B : Nat} (h : Fr F w w') (hB : B ≤ w.heap.size) (hF : ∀ k, F k → B ≤ k) : Below B w w' :=
  ⟨h.os, h.tape, h.output, h.size, fun k hk => h.block k (by omega) (fun hf => by have := hF k hf; omega)⟩
end

inductive Role where
  | disk | lasts | waits | order
  | page (i : Nat)

/-- Where a disk lies. -/
structure Lay where
  lb : Nat
  mb : Nat
  ov : Value
  L : Nat → Option (Nat × Nat)
  M : Nat → Option (Nat × Nat)
  m : Nat
  role : Nat → Option Role

def Lay.foot (y : Lay) (k : Nat) : Prop := y.role k ≠ none

/-- A page's bytes as a slice. -/
def sl : Option (Nat × Nat) → Value
  | none => .slice none 0 0
  | some (b, c) => .slice (some ⟨b, 0, none⟩) 4096 c

def cells (y : Lay) (d : Dsk) : Nat → Value
  | 0 => .slice (some ⟨y.lb, 0, none⟩) d.n d.n
  | 1 => .map (some y.mb)
  | 2 => y.ov
  | 3 => .bool d.dead
  | 4 => .bool d.fuse.isSome
  | _ => .int .i64 ((d.fuse.getD 0 : Nat) : Int)

/-- What lasts of page i: nil, or a row of its own. -/
def LastAt (w : World) (role : Nat → Option Role) (i : Nat) (x : Option (Nat × Nat)) (l : List UInt8) : Prop :=
  match x with
  | none => l = zpage
  | some (b, c) => role b = some (.page i) ∧ Own 5 w 0 (.slice (some ⟨b, 0, none⟩) 4096 c) l
/-- What waits of page i. -/
def WaitAt (w : World) (role : Nat → Option Role) (i : Nat) (x : Option (Nat × Nat)) (o : Option (List UInt8)) : Prop :=
  match x, o with
  | none, none => True
  | some (b, c), some l => role b = some (.page i) ∧ Own 5 w 0 (.slice (some ⟨b, 0, none⟩) 4096 c) l
  | _, _ => False

/-- In world w the disk d lies at block db, as y tells. -/
structure IsD (w : World) (db : Nat) (y : Lay) (d : Dsk) : Prop where
  n1 : 1 ≤ d.n
  n2 : d.n ≤ 4096
  row : w.rowIs db 98 6 (cells y d)
  lasts : w.rowIs y.lb 36 d.n (fun i => sl (y.L i))
  waits : MapIs w y.mb y.m (.slice none 0 0) (fun i => (y.M i).map fun x => sl (some x))
  ord : OwnI w 0 y.ov (ints d.order)
  lastOk : ∀ i, i < d.n → LastAt w y.role i (y.L i) (d.last i)
  waitOk : ∀ i, i < d.n → WaitAt w y.role i (y.M i) (d.wait i)
  apart : ∀ i b c b' c', y.L i = some (b, c) → y.M i = some (b', c') → b ≠ b'
  rdb : y.role db = some .disk
  rlb : y.role y.lb = some .lasts
  rmb : y.role y.mb = some .waits
  rob : ∀ k, y.ov.ownBlock = some k → y.role k = some .order
  foot : ∀ k, y.foot k → k < w.heap.size
  ordLen : d.order.length ≤ y.m
  fuseOk : d.fuse.getD 0 < 9223372036854775808
  lastLen : ∀ i, i < d.n → (d.last i).length = 4096
  waitLen : ∀ i l, i < d.n → d.wait i = some l → l.length = 4096

/-- The pages that wait are those of the order, each once. -/
structure Good (d : Dsk) : Prop where
  mem : ∀ i, i ∈ d.order ↔ i < d.n ∧ d.wait i ≠ none
  nodup : d.order.Nodup

theorem Own.of_block {e : TypeId} {w w' : World} {base : Nat} {v : Value} {l : List UInt8} (h : Own e w base v l) (hk : ∀ k, v.ownBlock = some k → w'.heap[k]? = w.heap[k]?) : Own e w' base v l := by
  refine ⟨h.1, ?_⟩
  rcases h.2 with h2 | ⟨g, cap, cur, hv, hg, hh, r⟩
  · exact .inl h2
  · exact .inr ⟨g, cap, cur, hv, hg, (hk g (by rw [hv]; rfl)).trans hh, r⟩
theorem owns_of_block {e : TypeId} {w w' : World} {base s n : Nat} {v : Value} {l : List Value} (h : w.ownsRow base e s v n l) (hk : ∀ k, v.ownBlock = some k → w'.heap[k]? = w.heap[k]?) : w'.ownsRow base e s v n l := by
  refine ⟨h.1, ?_⟩
  rcases h.2 with h2 | ⟨g, cap, cur, hv, hg, hh, r⟩
  · exact .inl h2
  · exact .inr ⟨g, cap, cur, hv, hg, (hk g (by rw [hv]; rfl)).trans hh, r⟩
theorem LastAt.of_block {w w' : World} {role : Nat → Option Role} {i : Nat} {x : Option (Nat × Nat)} {l : List UInt8} (h : LastAt w role i x l) (hk : ∀ k, role k = some (.page i) → w'.heap[k]? = w.heap[k]?) : LastAt w' role i x l := by
  rcases x with _ | ⟨b, c⟩
  · exact h
  · exact ⟨h.1, Own.of_block h.2 fun k e => hk k (by cases e; exact h.1)⟩
theorem WaitAt.of_block {w w' : World} {role : Nat → Option Role} {i : Nat} {x : Option (Nat × Nat)} {o : Option (List UInt8)} (h : WaitAt w role i x o) (hk : ∀ k, role k = some (.page i) → w'.heap[k]? = w.heap[k]?) : WaitAt w' role i x o := by
  rcases x with _ | ⟨b, c⟩ <;> rcases o with _ | l
  · trivial
  · exact h
  · exact h
  · exact ⟨h.1, Own.of_block h.2 fun k e => hk k (by cases e; exact h.1)⟩

section
variable {w w' : World} {db : Nat} {y : Lay} {d : Dsk}

/-- What does not touch the disk's blocks leaves it. -/
theorem IsD.keep (h : IsD w db y d) (hs : w.heap.size ≤ w'.heap.size) (hk : ∀ k, y.foot k → w'.heap[k]? = w.heap[k]?) : IsD w' db y d :=
  have hf : ∀ {k r}, y.role k = some r → w'.heap[k]? = w.heap[k]? := fun e => hk _ (by simp [Lay.foot, e])
  { h with
    row := h.row.of_block (hf h.rdb), lasts := h.lasts.of_block (hf h.rlb), waits := h.waits.of_block (hf h.rmb)
    ord := owns_of_block h.ord fun k e => hf (h.rob k e)
    lastOk := fun i hi => (h.lastOk i hi).of_block fun k e => hf e
    waitOk := fun i hi => (h.waitOk i hi).of_block fun k e => hf e
    foot := fun k e => Nat.lt_of_lt_of_le (h.foot k e) hs }
theorem IsD.fr {F : Nat → Prop} (h : IsD w db y d) (hf : Fr F w w') (hF : ∀ k, y.foot k → ¬ F k) : IsD w' db y d := h.keep hf.size fun k hk => hf.block k (h.foot k hk) (hF k hk)
theorem IsD.below (h : IsD w db y d) (hb : Below w.heap.size w w') : IsD w' db y d := h.keep hb.size fun k hk => hb.block k (h.foot k hk)
theorem IsD.alloc (h : IsD w db y d) (o : Obj) : IsD (w.alloc o) db y d := h.keep (by simp) fun k hk => Below.heap_alloc _ _ _ (h.foot k hk)
theorem IsD.drew (h : IsD w db y d) : IsD w.drew db y d := h.keep (Nat.le_refl _) fun _ _ => rfl
theorem IsD.fdb (h : IsD w db y d) : y.foot db := by simp [Lay.foot, h.rdb]
theorem IsD.flb (h : IsD w db y d) : y.foot y.lb := by simp [Lay.foot, h.rlb]
theorem IsD.fmb (h : IsD w db y d) : y.foot y.mb := by simp [Lay.foot, h.rmb]
theorem IsD.ne_lb (h : IsD w db y d) : db ≠ y.lb := fun e => by have := h.rdb; rw [e, h.rlb] at this; cases this
theorem IsD.ne_mb (h : IsD w db y d) : db ≠ y.mb := fun e => by have := h.rdb; rw [e, h.rmb] at this; cases this
theorem IsD.ne_lm (h : IsD w db y d) : y.lb ≠ y.mb := fun e => by have := h.rlb; rw [e, h.rmb] at this; cases this
theorem IsD.ne_page (h : IsD w db y d) {b i : Nat} (hb : y.role b = some (.page i)) : b ≠ db ∧ b ≠ y.lb ∧ b ≠ y.mb :=
  ⟨fun e => (by rw [e, h.rdb] at hb; cases hb), fun e => (by rw [e, h.rlb] at hb; cases hb), fun e => (by rw [e, h.rmb] at hb; cases hb)⟩
/-- A field. -/
theorem IsD.cell (h : IsD w db y d) (i : Nat) (hi : i < 6) : w.cell? ⟨db, i, none⟩ = some (cells y d i) := h.row.cell hi
theorem IsD.frozen (h : IsD w db y d) (i : Nat) : w.frozen? ⟨db, i, none⟩ = false := h.row.frozen i

/-- A store into a field that bears a plain value: the datum turns. -/
theorem IsD.set (h : IsD w db y d) (i : Nat) (v : Value) (d' : Dsk) (hv : ∀ j, j < 6 → cells y d' j = if j = i then v else cells y d j) (h1 : d'.n = d.n) (h2 : d'.last = d.last) (h3 : d'.wait = d.wait) (h4 : d'.order = d.order) (h5 : d'.fuse.getD 0 < 9223372036854775808) :
    IsD (w.setCell ⟨db, i, none⟩ v) db y d' :=
  have ho : ∀ k, k ≠ db → (w.setCell ⟨db, i, none⟩ v).heap[k]? = w.heap[k]? := fun k hk => Below.heap_setCell _ _ _ _ hk
  have hn : ∀ {k r}, y.role k = some r → r ≠ .disk → k ≠ db := fun e hr e2 => hr (by rw [e2, h.rdb] at e; cases e; rfl)
  { n1 := h1 ▸ h.n1, n2 := h1 ▸ h.n2
    row := (h.row.set i v).congr fun j hj => (hv j hj).symm
    lasts := by rw [h1]; exact h.lasts.of_block (ho _ (Ne.symm h.ne_lb))
    waits := h.waits.of_block (ho _ (Ne.symm h.ne_mb))
    ord := by rw [h4]; exact owns_of_block h.ord fun k e => ho k (hn (h.rob k e) (by simp))
    lastOk := fun j hj => by rw [h2]; exact (h.lastOk j (h1 ▸ hj)).of_block fun k e => ho k (hn e (by simp))
    waitOk := fun j hj => by rw [h3]; exact (h.waitOk j (h1 ▸ hj)).of_block fun k e => ho k (hn e (by simp))
    apart := h.apart, rdb := h.rdb, rlb := h.rlb, rmb := h.rmb, rob := h.rob
    foot := fun k hk => by have := h.foot k hk; simpa [World.setCell] using this
    ordLen := h4 ▸ h.ordLen, fuseOk := h5
    lastLen := fun j hj => by rw [h2]; exact h.lastLen j (h1 ▸ hj)
    waitLen := fun j l hj e => h.waitLen j l (h1 ▸ hj) (h3 ▸ e) }
end

/-- What a call on a disk may turn. -/
structure Kp (w : World) (y : Lay) (w' : World) (y' : Lay) : Prop where
  fr : Fr y.foot w w'
  foot : ∀ k, k < w.heap.size → y'.foot k → y.foot k
theorem Kp.refl (w : World) (y : Lay) : Kp w y w y := ⟨Fr.refl _ _, fun _ _ h => h⟩
theorem Kp.trans {a w w' : World} {x y z : Lay} (h : Kp a x w y) (k : Kp w y w' z) : Kp a x w' z :=
  ⟨h.fr.trans k.fr fun b hb hf => h.foot b hb hf, fun b hb hf => h.foot b hb (k.foot b (Nat.lt_of_lt_of_le hb h.fr.size) hf)⟩
theorem Kp.same {w w' : World} {y : Lay} (h : Fr y.foot w w') : Kp w y w' y := ⟨h, fun _ _ h => h⟩
theorem Kp.low {w w' : World} {y y' : Lay} {B : Nat} (h : Kp w y w' y') (hB : B ≤ w.heap.size) (hy : ∀ k, y.foot k → B ≤ k) : ∀ k, y'.foot k → B ≤ k := fun k hk => by
  rcases Nat.lt_or_ge k w.heap.size with h1 | h1
  · exact hy k (h.foot k h1 hk)
  · omega
theorem Kp.below {w w' : World} {y y' : Lay} {B : Nat} (h : Kp w y w' y') (hB : B ≤ w.heap.size) (hy : ∀ k, y.foot k → B ≤ k) : Below B w w' := h.fr.below hB hy
/-- What another one's blocks hold is kept. -/
theorem Kp.free {w w' : World} {y y' : Lay} (h : Kp w y w' y') {k : Nat} (hk : k < w.heap.size) (hf : ¬ y.foot k) : ¬ y'.foot k ∧ w'.heap[k]? = w.heap[k]? := ⟨fun e => hf (h.foot k hk e), h.fr.block k hk hf⟩
end Go.Proofs.YtnpebfolmdbipaaGreatDoor.Dk
