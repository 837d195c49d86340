import Derived.WalkKit
import Derived.ProofKit
import Derived.OpenShut
import Derived.Below
import Derived.Laws.OwnMore
import Derived.Laws.MakeOwn
import Derived.Laws.NewBlocks
import Derived.Laws.BytesArg
import Derived.Deep.Draws
import Derived.Lib.Hide
import Derived.Laws.Rows
import Derived.Laws.BitsAllLaws
import Derived.IntWalk
import Derived.Maps.AppendAt
import Derived.Lib.AppendZerosOnto
import Derived.OwnWalk
namespace Go.Proofs.Ytnaoodaadeimbaa.Mem
open Go.RowKit

/-- A byte as a cell. -/
def bv (x : UInt8) : Value := .int .u8 (x.toNat : Int)
/-- The cells of bytes. -/
def bcs (l : List UInt8) : Array Value := (l.map bv).toArray

theorem size_bcs (l : List UInt8) : (bcs l).size = l.length := by simp [bcs]
theorem bcs_at (l : List UInt8) (i : Nat) : (bcs l)[i]? = (l[i]?).map bv := by simp [bcs]
theorem bcs_set (l : List UInt8) (i : Nat) (x : UInt8) : (bcs l).setIfInBounds i (bv x) = bcs (l.set i x) := by
  apply Array.toList_inj.1
  simp [bcs, List.map_set]
theorem bcs_zeros (n : Nat) : madeCells #[.int .u8 0] n = bcs (List.replicate n 0) := by
  apply Array.toList_inj.1
  rw [toList_madeCells_one]
  simp [bcs, bv]

/-- The last k bytes of v, the highest first. -/
def be : Nat → Nat → List UInt8
  | 0, _ => []
  | k + 1, v => UInt8.ofNat (v / 256 ^ k) :: be k v
theorem length_be (k v : Nat) : (be k v).length = k := by induction k <;> simp [be, *]
/-- What bytes tell, the highest first. -/
def val (l : List UInt8) : Nat := l.foldl (fun a x => a * 256 + x.toNat) 0
theorem val_snoc (l : List UInt8) (x : UInt8) : val (l ++ [x]) = val l * 256 + x.toNat := by simp [val]
theorem foldl_val (l : List UInt8) (a : Nat) : l.foldl (fun a x => a * 256 + x.toNat) a = a * 256 ^ l.length + val l := by
  induction l generalizing a with
  | nil => simp [val]
  | cons x l ih => simp only [List.foldl_cons, val]; rw [ih, ih (0 * 256 + x.toNat)]; simp [Nat.pow_succ, Nat.add_mul]; rw [Nat.mul_assoc, Nat.mul_comm 256]; omega
theorem val_cons (l : List UInt8) (x : UInt8) : val (x :: l) = x.toNat * 256 ^ l.length + val l := by
  show List.foldl _ _ l = _
  rw [foldl_val]; simp
theorem val_be (k v : Nat) : val (be k v) = v % 256 ^ k := by
  induction k with
  | zero => simp [be, val, Nat.mod_one]
  | succ k ih =>
    rw [be, val_cons, ih, length_be, Nat.pow_succ, Nat.mod_mul, UInt8.toNat_ofNat']
    rw [Nat.mul_comm (256 ^ k), Nat.add_comm]
theorem val_lt (l : List UInt8) : val l < 256 ^ l.length := by
  induction l with
  | nil => simp [val]
  | cons x l ih =>
    rw [val_cons, List.length_cons, Nat.pow_succ]
    have hx : x.toNat < 256 := x.toNat_lt
    have : x.toNat * 256 ^ l.length + 256 ^ l.length ≤ 256 ^ l.length * 256 := by
      have := Nat.mul_le_mul_right (256 ^ l.length) (show x.toNat + 1 ≤ 256 by omega)
      rw [Nat.add_mul] at this; omega
    omega

theorem byte_of (v : Int) (k : Nat) (h0 : 0 ≤ v) : Value.int .u8 (v / 2 ^ (8 * k) % 256) = bv (UInt8.ofNat (v.toNat / 256 ^ k)) := by
  obtain ⟨n, rfl⟩ := Int.eq_ofNat_of_zero_le h0
  have e : (2 : Nat) ^ (8 * k) = 256 ^ k := by rw [Nat.pow_mul]
  unfold bv
  rw [UInt8.toNat_ofNat', Int.toNat_natCast, ← e]
  congr 1
theorem zeros_at (n k : Nat) (l : List UInt8) (hk : k < n) : (bcs (List.replicate (n - k) 0 ++ l))[n - 1 - k]? = some (bv 0) := by
  rw [bcs_at, List.getElem?_append_left (by simp; omega), List.getElem?_replicate, if_pos (by omega)]; rfl
theorem zeros_set (n k : Nat) (l : List UInt8) (x : UInt8) (hk : k < n) : (List.replicate (n - k) 0 ++ l).set (n - 1 - k) x = List.replicate (n - (k + 1)) 0 ++ (x :: l) := by
  rw [List.set_append, if_pos (by simp; omega)]
  rw [show n - k = (n - (k + 1)) + 1 by omega, List.replicate_succ']
  rw [List.set_append, if_neg (by simp; omega)]
  simp [show n - 1 - k - (n - (k + 1)) = 0 by omega]

/-- A []byte '.slice A l.length c' that reads as l, its cells in blocks below B. -/
def Rd (w : World) (B : Nat) (A : Option Addr) (c : Nat) (l : List UInt8) : Prop :=
  l.length ≤ c ∧ c ≤ maxLen ∧ (A = none → c = 0) ∧ (0 < l.length → ∃ b o, A = some ⟨b, o, none⟩ ∧ b < B ∧ ∀ i (h : i < l.length), w.cell? ⟨b, o + i, none⟩ = some (.int .u8 (l[i].toNat : Int)))

theorem Rd.nil (w : World) (B : Nat) : Rd w B none 0 [] := ⟨by simp, by unfold maxLen; omega, fun _ => rfl, fun h => by simp at h⟩
theorem Rd.keep {w w' : World} {B : Nat} {A : Option Addr} {c : Nat} {l : List UInt8} (h : Rd w B A c l) (hk : ∀ p : Addr, p.block < B → w'.cell? p = w.cell? p) : Rd w' B A c l :=
  ⟨h.1, h.2.1, h.2.2.1, fun hn => by
    obtain ⟨b, o, e, hb, hc⟩ := h.2.2.2 hn
    exact ⟨b, o, e, hb, fun i hi => (hk ⟨b, o + i, none⟩ hb).trans (hc i hi)⟩⟩
theorem Rd.more {w : World} {B B' : Nat} {A : Option Addr} {c : Nat} {l : List UInt8} (h : Rd w B A c l) (hB : B ≤ B') : Rd w B' A c l :=
  ⟨h.1, h.2.1, h.2.2.1, fun hn => by
    obtain ⟨b, o, e, hb, hc⟩ := h.2.2.2 hn
    exact ⟨b, o, e, by omega, hc⟩⟩
theorem Rd.below {w w' : World} {B : Nat} {A : Option Addr} {c : Nat} {l : List UInt8} (h : Rd w B A c l) (hb : Below B w w') : Rd w' B A c l := h.keep fun _ hp => hb.cell hp
theorem Rd.new (w : World) (l : List UInt8) (t : TypeId) (h : l.length ≤ maxLen) (fr : Nat × Nat := (0, 0)) : Rd (w.alloc (.cells (bcs l) t fr)) (w.heap.size + 1) (some ⟨w.heap.size, 0, none⟩) l.length l :=
  ⟨Nat.le_refl _, h, (fun e => by cases e), fun _ => ⟨w.heap.size, 0, rfl, by omega, fun i hi => by
    rw [cell_of_row _ _ _ _ _ _ (heap_alloc_new w _), Nat.zero_add, bcs_at, List.getElem?_eq_getElem hi]; rfl⟩⟩

theorem shl_or (a b : Nat) (hb : b < 256) : a * 256 ||| b = a * 256 + b := by
  rw [show a * 256 = 2 ^ 8 * a by rw [Nat.mul_comm], ← Nat.two_pow_add_eq_or_of_lt (by simpa using hb)]
theorem val_take (l : List UInt8) (k : Nat) (hk : k < l.length) : val (l.take (k + 1)) = val (l.take k) * 256 + l[k].toNat := by
  rw [List.take_succ_eq_append_getElem hk, val_snoc]

theorem pow_le_8 (n : Nat) (h : n ≤ 8) : 256 ^ n ≤ 18446744073709551616 := Nat.le_trans (Nat.pow_le_pow_right (by omega) h) (by decide)
theorem val_lt64 (l : List UInt8) (h : l.length ≤ 8) : val l < 18446744073709551616 := Nat.lt_of_lt_of_le (val_lt l) (pow_le_8 _ h)
theorem val_step (l : List UInt8) (k : Nat) (hk : k < l.length) (h : l.length ≤ 8) :
    bits BinOp.or IntKind.u64 (IntKind.u64.wrap ((val (List.take k l) : Int) * 256)) (IntKind.u64.wrap (l[k].toNat : Int)) = ((val (l.take (k + 1)) : Nat) : Int) := by
  have h1 := val_take l k hk
  have h2 : val (l.take (k + 1)) < 18446744073709551616 := val_lt64 _ (by rw [List.length_take]; omega)
  have hx : l[k].toNat < 256 := l[k].toNat_lt
  have e1 : ((val (List.take k l) : Int) * 256) = ((val (List.take k l) * 256 : Nat) : Int) := by omega
  rw [e1, IntWalk.u64_in _ (by omega), IntWalk.u64_in _ (by omega), u64_or_nat _ _ (by omega) (by omega), shl_or _ _ hx, h1]

/-- Type t is []byte, e its byte. -/
structure ByteTy (P : Program) (t e : TypeId) : Prop where
  under : P.underlying t = some (.slice e)
  elem : P.underlying e = some (.int .u8)
  info : ∃ i, P.info? e = some i ∧ i.zero = some (.int .u8 0) ∧ i.size = 1 ∧ i.bytes = 1

/-- A row of bytes of the call's own. -/
def Own (e : TypeId) (w : World) (base : Nat) (v : Value) (l : List UInt8) : Prop := w.ownsRow base e 1 v l.length (l.map bv)
theorem Own.nil (e : TypeId) (w : World) (base : Nat) : Own e w base (.slice none 0 0) [] := World.ownsRow_nil w base e 1
theorem Own.form {e : TypeId} {w : World} {base : Nat} {v : Value} {l : List UInt8} (h : Own e w base v l) : ∃ A c, v = .slice A l.length c ∧ Rd w w.heap.size A c l ∧ (∀ k, v.ownBlock = some k → base ≤ k ∧ k < w.heap.size) ∧ ∀ a, A = some a → a.spot = none := by
  have hlt := World.ownsRow.lt h
  have hcells := fun g hg => World.ownsRow.cells (g := g) h hg
  rcases h.2 with ⟨rfl, h0⟩ | ⟨g, cap, cur, rfl, hb, hh, hnc, hcm, _, _⟩
  · have : l = [] := List.eq_nil_of_length_eq_zero h0
    subst this
    exact ⟨none, 0, rfl, Rd.nil _ _, hlt, fun _ e => by cases e⟩
  · refine ⟨_, cap, rfl, ⟨hnc, hcm, fun e => (by cases e), fun _ => ⟨g, 0, rfl, (hlt g rfl).2, fun i hi => ?_⟩⟩, hlt, fun _ e => (by cases e; rfl)⟩
    have := hcells g rfl i (bv l[i]) (by simp [hi])
    rw [show (⟨g, 0, none⟩ : Addr).add i = ⟨g, 0 + i, none⟩ by unfold Addr.add; split <;> simp_all] at this
    exact this
theorem Own.below {e : TypeId} {w w' : World} {base B : Nat} {v : Value} {l : List UInt8} (h : Own e w base v l) (hb : Below B w w') (hB : w.heap.size ≤ B) : Own e w' base v l := by
  refine ⟨h.1, ?_⟩
  rcases h.2 with h2 | ⟨g, cap, cur, hv, hg, hh, r⟩
  · exact .inl h2
  · exact .inr ⟨g, cap, cur, hv, hg, by rw [hb.block g (by have := lt_of_block hh; omega)]; exact hh, r⟩
theorem Own.lit (e : TypeId) (w : World) (l : List UInt8) (base : Nat) (hb : base ≤ w.heap.size) (h : l.length ≤ maxLen) : Own e (w.alloc (.cells (bcs l) e)) base (.slice (some ⟨w.heap.size, 0, none⟩) l.length l.length) l := by
  have := World.ownsRow_lit (size := 1) (e := e) w (bcs l) l.length hb h (by simp [bcs])
  unfold Own
  simpa [bcs] using this

theorem run_append_rd {P : Program} {t e : TypeId} (T : ByteTy P t e) (w : World) (ty : TypeId) (base : Nat) (v : Value) (l : List UInt8) (hown : Own e w base v l)
    (B : Nat) (A : Option Addr) (c : Nat) (k : List UInt8) (hr : Rd w B A c k) (hlen : l.length + k.length ≤ 140737488355328) (hbase : base ≤ w.heap.size) :
    ∃ v' w', (Builtin.append_ #[t, t] ty #[v, .slice A k.length c]).run P w = .ok v' w' ∧ Own e w' base v' (l ++ k) ∧ w.grownBy w' v.ownBlock ∧ (v'.ownBlock = v.ownBlock ∨ v'.ownBlock = some w.heap.size) := by
  obtain ⟨i, hi, hz, hs, hby⟩ := T.info
  rcases A with _ | ad
  · have hc := hr.2.2.1 rfl
    have hk : k = [] := List.eq_nil_of_length_eq_zero (by have := hr.1; omega)
    subst hk
    refine ⟨v, w, ?_, by simpa using hown, World.grownBy.refl w _, .inl rfl⟩
    have hsz : ∀ W, (Go.sizeOf e).run P W = .ok 1 W := fun W => by simp [Go.sizeOf, typeInfo, hi, hs]
    rcases hown.2 with ⟨rfl, hn⟩ | ⟨g, cap, cur, rfl, _, _, hnc, _⟩
    · simp [Builtin.append_, run_underlying T.under, hsz, Builtin.lenOf, Builtin.firstCells]
    · simp [Builtin.append_, run_underlying T.under, hsz, Builtin.lenOf, Builtin.firstCells, hnc, storeCells]
  · have hcells : ∀ j u, (k.map bv)[j]? = some u → w.cell? (ad.add j) = some u := by
      intro j u hu
      have hj : j < k.length := by
        rcases Nat.lt_or_ge j k.length with h | h
        · exact h
        · simp [List.getElem?_eq_none h] at hu
      obtain ⟨b, o, e1, _, hc⟩ := hr.2.2.2 (by omega)
      injection e1 with e1
      subst e1
      rw [show (⟨b, o, none⟩ : Addr).add j = ⟨b, o + j, none⟩ by unfold Addr.add; split <;> simp_all, hc j hj]
      simp [hj, bv] at hu
      rw [← hu]
    obtain ⟨v', w', hrun, h2, h3, _, h5⟩ := run_append_own_at (P := P) w base t ty e i _ 1 1 T.under hi hz hs hby rfl (by omega) v l.length (l.map bv) hown ad k.length c (k.map bv) (by simp) hcells
      (by intro u hu; simp only [List.mem_map] at hu; obtain ⟨x, _, rfl⟩ := hu; rfl) (by unfold maxLen; omega) (by omega) hbase
    exact ⟨v', w', hrun, by unfold Own; rw [List.length_append, List.map_append]; exact h2, h3, h5⟩

theorem wpList_append_rd {P : Program} {t e : TypeId} (T : ByteTy P t e) {ops : Array Oper} {rest : List Oper} {o : Oper} {a : Act} {w : World} {Q : Exit → Act → World → Prop} (hgd : o.guard = none) (s x : Operand)
    (ho : o.op = .call { callee := .builtin .append, args := #[s, x], argTypes := #[t, t] })
    (base : Nat) (v : Value) (l : List UInt8) (hs : a.eval s = v) (hown : Own e w base v l)
    (B : Nat) (A : Option Addr) (m c : Nat) (k : List UInt8) (hx : a.eval x = .slice A m c) (hm : m = k.length) (hr : Rd w B A c k) (hlen : l.length + k.length ≤ 140737488355328) (hbase : base ≤ w.heap.size)
    (h : ∀ v' w', Own e w' base v' (l ++ k) → w.grownBy w' v.ownBlock → (v'.ownBlock = v.ownBlock ∨ v'.ownBlock = some w.heap.size) → wpList P ops Q rest (a.put o.dst v') w') : wpList P ops Q (o :: rest) a w := by
  subst hm
  obtain ⟨v', w', hrun, h2, h3, h4⟩ := run_append_rd T w o.type base v l hown B A c k hr hlen hbase
  refine wpList_plain hgd fun K hK => ?_
  unfold Oper.wp execOp
  simp only [ho, resolve, invoke, builtin, Sem.run_bind, Sem.run_pure, Result.andThen_ok, List.map_toArray, List.map_cons, List.map_nil, hs, hx, hrun]
  exact hK _ _ (h v' w' h2 h3 h4)

/-- The parts that are laid one behind the other. -/
structure Part where
  A : Option Addr
  c : Nat
  l : List UInt8
def Part.v (p : Part) : Value := .slice p.A p.l.length p.c
def flat (ps : List Part) : List UInt8 := (ps.map Part.l).flatten
theorem flat_take (ps : List Part) (k : Nat) (hk : k < ps.length) : flat (ps.take (k + 1)) = flat (ps.take k) ++ ps[k].l := by
  unfold flat; rw [List.take_succ_eq_append_getElem hk, List.map_append, List.flatten_append]; simp only [List.map_cons, List.map_nil, List.flatten_cons, List.flatten_nil, List.append_nil]
theorem flat_take_le (ps : List Part) (k : Nat) : (flat (ps.take k)).length ≤ (flat ps).length := by
  have h : flat ps = flat (ps.take k) ++ flat (ps.drop k) := by
    unfold flat; rw [← List.flatten_append, ← List.map_append, List.take_append_drop]
  rw [h, List.length_append]; omega

theorem own_trans {w0 w w' : World} {v : Value} (hb : Below w0.heap.size w0 w) (hg : w.grownBy w' v.ownBlock) (hr : ∀ k, v.ownBlock = some k → w0.heap.size ≤ k) : Below w0.heap.size w0 w' :=
  hb.grown hg hb.size hr

theorem zeroCells_bytes (n : Nat) : Builtin.zeroCells (Value.int .u8 0).cells n = bcs (List.replicate n 0) := by
  apply Array.toList_inj.1
  simp [Builtin.zeroCells, bcs, Value.cells, bv]
  apply List.ext_getElem
  · simp
  · intro i h1 h2; simp [Nat.mod_one]
theorem bcs_app (a b : List UInt8) : bcs a ++ bcs b = bcs (a ++ b) := by simp [bcs]

theorem Rd.alloc {w : World} {B : Nat} {A : Option Addr} {c : Nat} {l : List UInt8} (h : Rd w B A c l) (hB : B ≤ w.heap.size) (o : Obj) : Rd (w.alloc o) B A c l :=
  h.below ((Below.refl B w).alloc hB o)
theorem size_alloc' (w : World) (o : Obj) : (w.alloc o).heap.size = w.heap.size + 1 := by simp
theorem below_alloc (w : World) (o : Obj) {w' : World} (h : Below (w.heap.size + 1) (w.alloc o) w') : Below w.heap.size w w' :=
  ((Below.refl _ w).alloc (Nat.le_refl _) o).trans (h.mono (by omega))
theorem Rd.lit (w : World) (l : List UInt8) (t : TypeId) (B : Nat) (hB : w.heap.size < B) (h : l.length ≤ maxLen) (fr : Nat × Nat := (0, 0)) : Rd (w.alloc (.cells (bcs l) t fr)) B (some ⟨w.heap.size, 0, none⟩) l.length l :=
  (Rd.new w l t h fr).more (by omega)

theorem Rd.take {w : World} {B : Nat} {A : Option Addr} {c : Nat} {l : List UInt8} (h : Rd w B A c l) (n : Nat) : Rd w B A c (l.take n) :=
  ⟨by have := h.1; simp; omega, h.2.1, h.2.2.1, fun hn => by
    simp at hn
    obtain ⟨b, o, e, hb, hc⟩ := h.2.2.2 (by omega)
    exact ⟨b, o, e, hb, fun i hi => by rw [List.getElem_take]; exact hc i (by simp at hi; omega)⟩⟩
theorem Rd.drop {w : World} {B b o c : Nat} {l : List UInt8} (h : Rd w B (some ⟨b, o, none⟩) c l) (n : Nat) (hn : n ≤ l.length) : Rd w B (some ⟨b, o + n, none⟩) (c - n) (l.drop n) :=
  ⟨by have := h.1; simp; omega, by have := h.2.1; omega, fun e => (by cases e), fun hp => by
    simp at hp
    obtain ⟨b', o', e, hb, hc⟩ := h.2.2.2 (by omega)
    simp at e
    obtain ⟨rfl, rfl⟩ := e
    exact ⟨_, _, rfl, hb, fun i hi => by rw [List.getElem_drop, Nat.add_assoc]; exact hc (n + i) (by simp at hi; omega)⟩⟩
theorem Rd.empty {w : World} {B : Nat} (A : Option Addr) (c : Nat) (hc : c ≤ maxLen) (h : A = none → c = 0) : Rd w B A c [] := ⟨Nat.zero_le _, hc, h, fun h => by simp at h⟩

end Go.Proofs.Ytnaoodaadeimbaa.Mem
