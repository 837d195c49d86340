import Derived.Test.YtcjokkjepgfinaaGreatDoorQMem
import Derived.Test.YtcjokkjepgfinaaGreatDoorRows
import Derived.Maps.OwnSet
import Derived.Deep.OwnRows
import Derived.WalkKit
import Derived.Outline
import Derived.ProofKit
import Derived.LoopTactic
import Derived.Lib.SliceRun
import Derived.WalkSmall
import Derived.ChangeAlike
import Derived.BigQuiet
import Derived.Deep.QuietTactic
import Derived.RegionTactic
import Derived.Laws.CopyRow
import Derived.StillTailTactics
import Derived.BigRegion
import Derived.Deep.RegionHeld3
import Derived.Deep.DeepCutAuto
set_option linter.unusedVariables false
set_option linter.unusedSimpArgs false
namespace Go.Proofs.YtcjokkjepgfinaaGreatDoor.Dk
open Go.RowKit Mem Go.ChangeMaps
def cod : Value → Option (DataW Unit)
  | .slice (some ⟨b, 0, none⟩) n c => some (.agg [.lit (.int .i64 b), .lit (.int .i64 n), .lit (.int .i64 c)])
  | .slice none 0 0 => some .nil
  | .bool x => some (.lit (.bool x))
  | _ => none
def elem (v : Value) : Option (DataW Unit × List MemPlace) := (cod v).map fun z => (z, [])
theorem cod_inj {v v' : Value} {z : DataW Unit} (h : cod v = some z) (h' : cod v' = some z) : v = v' := by
  unfold cod at h h'
  split at h <;> split at h' <;> first | (cases h; done) | (cases h'; done) | skip
  all_goals (injection h with h; injection h' with h'; subst h)
  all_goals first | (cases h'; done) | skip
  all_goals first | rfl | skip
  · simp only [DataW.agg.injEq, List.cons.injEq, DataW.lit.injEq, Lit.int.injEq, true_and, and_true] at h'
    obtain ⟨h1, h2, h3⟩ := h'
    rw [Int.ofNat_inj.1 h1, Int.ofNat_inj.1 h2, Int.ofNat_inj.1 h3]
  · simp only [DataW.lit.injEq, Lit.bool.injEq] at h'
    rw [h']
theorem elem_mk {v : Value} {z : DataW Unit} (h : cod v = some z) : elem v = some (z, []) := by simp [elem, h]
theorem elem_inv {v : Value} {z : DataW Unit} {ps : List MemPlace} (h : elem v = some (z, ps)) : cod v = some z := by
  unfold elem at h
  cases hc : cod v <;> simp [hc] at h
  rw [h.1]
abbrev key (k : Nat) : Lit := .int .i64 (k : Int)
theorem key_inj {a b : Nat} (h : a ≠ b) : key a ≠ key b := by intro e; injection e with _ e2; omega
theorem wf_key (k : Nat) (h : k < 4611686018427387904) : (Lit.int .i64 (k : Int)).wf = true := WalkArith.wf_i64 (by omega)
theorem keyed3 : Maps.Keyed Tryz.prog 3 := Maps.int_keyed Tryz.underlying3
def MapIs (w : World) (b m : Nat) (zv : Value) (V : Nat → Option Value) : Prop :=
  ∃ D zd, cod zv = some zd ∧ w.ownsMap Tryz.prog 3 elem b m D ∧ ∀ k : Nat, k < 4611686018427387904 → Maps.has D (key k) = (V k).isSome ∧ cod ((V k).getD zv) = some (D.atKey (key k) zd)
section
variable {w : World} {b m : Nat} {zv : Value} {V : Nat → Option Value}
theorem MapIs.made (w : World) (zv : Value) {zd : DataW Unit} (hz : cod zv = some zd) : MapIs (w.alloc (.map #[] 0)) w.heap.size 0 zv (fun _ => none) :=
  ⟨.map [], zd, hz, World.ownsMap_made w Tryz.prog 3 elem, fun k _ => ⟨rfl, hz⟩⟩
theorem MapIs.lt (h : MapIs w b m zv V) : b < w.heap.size := by obtain ⟨D, zd, _, ho, _⟩ := h; exact ho.lt
theorem MapIs.mono (h : MapIs w b m zv V) {m' : Nat} (hm : m ≤ m') : MapIs w b m' zv V := by obtain ⟨D, zd, hz, ho, hv⟩ := h; exact ⟨D, zd, hz, ho.mono hm, hv⟩
theorem MapIs.of_block {w' : World} (h : MapIs w b m zv V) (e : w'.heap[b]? = w.heap[b]?) : MapIs w' b m zv V := by
  obtain ⟨D, zd, hz, ⟨es, cl, hb, r⟩, hv⟩ := h
  exact ⟨D, zd, hz, ⟨es, cl, e.trans hb, r⟩, hv⟩
theorem MapIs.look {t e : TypeId} (h : MapIs w b m zv V) (ht : Tryz.prog.underlying t = some (.map 3 e)) (hz : (zeroValue e).run Tryz.prog w = .ok zv w) (k : Nat) (hk : k < 4611686018427387904) :
    (Instr.lookup t (.map (some b)) (.int .i64 k) false).run Tryz.prog w = .ok ((V k).getD zv) w := by
  obtain ⟨D, zd, hzd, ho, hv⟩ := h
  obtain ⟨v, ps, hrun, hR⟩ := ho.lookup keyed3 ht hz (elem_mk hzd) (Maps.keyOf_int_mk Tryz.underlying3 (wf_key k hk))
  rw [hrun, cod_inj (elem_inv hR) (hv k hk).2]
theorem MapIs.look_ok {t e : TypeId} (h : MapIs w b m zv V) (ht : Tryz.prog.underlying t = some (.map 3 e)) (hz : (zeroValue e).run Tryz.prog w = .ok zv w) (k : Nat) (hk : k < 4611686018427387904) :
    (Instr.lookup t (.map (some b)) (.int .i64 k) true).run Tryz.prog w = .ok (.tuple #[(V k).getD zv, .bool (V k).isSome]) w := by
  obtain ⟨D, zd, hzd, ho, hv⟩ := h
  obtain ⟨v, ps, hrun, hR⟩ := ho.look_ok keyed3 ht hz (elem_mk hzd) (Maps.keyOf_int_mk Tryz.underlying3 (wf_key k hk))
  rw [hrun, cod_inj (elem_inv hR) (hv k hk).2, (hv k hk).1]
theorem MapIs.store {t e : TypeId} (h : MapIs w b m zv V) (ht : Tryz.prog.underlying t = some (.map 3 e)) (hm : m < maxLen) (k : Nat) (hk : k < 4611686018427387904) (v : Value) {z : DataW Unit} (hv : cod v = some z) :
    ∃ w', (Instr.mapUpdate t (.map (some b)) (.int .i64 k) v).run Tryz.prog w = .ok () w' ∧ MapIs w' b (m + 1) zv (fun j => if j = k then some v else V j) ∧ w.mapTurned w' b := by
  obtain ⟨D, zd, hzd, ho, hV⟩ := h
  have hkey := Maps.keyOf_int_mk Tryz.underlying3 (wf_key k hk)
  obtain ⟨w', hrun, ho', hg⟩ := ho.store keyed3 ht hm hkey (elem_mk hv)
  refine ⟨w', hrun, ⟨_, zd, hzd, ho', fun j hj => ?_⟩, hg⟩
  have hI := ho.isMap
  by_cases e : j = k
  · subst e
    show Maps.has _ _ = (if j = j then some v else V j).isSome ∧ cod ((if j = j then some v else V j).getD zv) = _
    rw [if_pos rfl, Maps.has_put_same hI (keyed3.key hkey), Maps.atKey_put_same hI (keyed3.key hkey)]
    exact ⟨rfl, hv⟩
  · show Maps.has _ _ = (if j = k then some v else V j).isSome ∧ cod ((if j = k then some v else V j).getD zv) = _
    rw [if_neg e, Maps.has_put_other (key_inj e), Maps.atKey_put_other (key_inj e)]
    exact hV j hj
theorem MapIs.clear {t e : TypeId} (h : MapIs w b m zv V) (ht : Tryz.prog.underlying t = some (.map 3 e)) (ty : TypeId) :
    ∃ w', (Builtin.clear_ #[t] ty #[.map (some b)]).run Tryz.prog w = .ok (.tuple #[]) w' ∧ MapIs w' b 0 zv (fun _ => none) ∧ w.mapTurned w' b := by
  obtain ⟨D, zd, hzd, ⟨es, cl, hb, F, _, _⟩, hV⟩ := h
  refine ⟨ChangeMaps.setBlock w b (.map #[] cl), ?_, ⟨.map [], zd, hzd, ⟨#[], cl, heap_setBlock_same hb _, ⟨by simp, ?_, by simp⟩, Nat.le_refl _, rfl⟩, fun k _ => ⟨rfl, hzd⟩⟩, ⟨es, cl, #[], cl, hb, rfl⟩⟩
  · simp [Builtin.clear_, run_underlying ht, MapKept.run_getObj_map hb, MapKept.run_setObj_map _ hb, Result.andThen]
    rfl
  · exact MapKept.stamped_empty cl
end
end Go.Proofs.YtcjokkjepgfinaaGreatDoor.Dk
namespace Go.Proofs.YtcjokkjepgfinaaGreatDoor.Dk
set_option maxRecDepth 4000
open Go.RowKit Mem
theorem i64_info : (Tryz.prog.info? 3).map (fun i => (i.zero, i.size, i.bytes)) = some (some (.int .i64 0), 1, 8) := by kernel_rfl
def RdI (w : World) (B : Nat) (A : Option Addr) (c : Nat) (l : List Int) : Prop :=
  l.length ≤ c ∧ c ≤ maxLen ∧ (A = none → c = 0) ∧ (0 < l.length → ∃ b o, A = some ⟨b, o, none⟩ ∧ b < B ∧ ∀ i (h : i < l.length), w.cell? ⟨b, o + i, none⟩ = some (.int .i64 l[i]))
theorem RdI.nil (w : World) (B : Nat) : RdI w B none 0 [] := ⟨by simp, by unfold maxLen; omega, fun _ => rfl, fun h => by simp at h⟩
theorem RdI.keep {w w' : World} {B : Nat} {A : Option Addr} {c : Nat} {l : List Int} (h : RdI w B A c l) (hk : ∀ p : Addr, p.block < B → w'.cell? p = w.cell? p) : RdI w' B A c l :=
  ⟨h.1, h.2.1, h.2.2.1, fun hn => by
    obtain ⟨b, o, e, hb, hc⟩ := h.2.2.2 hn
    exact ⟨b, o, e, hb, fun i hi => (hk ⟨b, o + i, none⟩ hb).trans (hc i hi)⟩⟩
theorem RdI.more {w : World} {B B' : Nat} {A : Option Addr} {c : Nat} {l : List Int} (h : RdI w B A c l) (hB : B ≤ B') : RdI w B' A c l :=
  ⟨h.1, h.2.1, h.2.2.1, fun hn => by
    obtain ⟨b, o, e, hb, hc⟩ := h.2.2.2 hn
    exact ⟨b, o, e, by omega, hc⟩⟩
theorem RdI.below {w w' : World} {B : Nat} {A : Option Addr} {c : Nat} {l : List Int} (h : RdI w B A c l) (hb : Below B w w') : RdI w' B A c l := h.keep fun _ hp => hb.cell hp
def OwnI (w : World) (base : Nat) (v : Value) (l : List Int) : Prop := w.ownsRow base 3 1 v l.length (l.map (Value.int .i64))
theorem OwnI.nil (w : World) (base : Nat) : OwnI w base (.slice none 0 0) [] := World.ownsRow_nil w base 3 1
theorem OwnI.form {w : World} {base : Nat} {v : Value} {l : List Int} (h : OwnI w base v l) : ∃ A c, v = .slice A l.length c ∧ RdI w w.heap.size A c l ∧ (∀ k, v.ownBlock = some k → base ≤ k ∧ k < w.heap.size) ∧ ∀ a, A = some a → a.spot = none := by
  have hlt := World.ownsRow.lt h
  have hcells := fun g hg => World.ownsRow.cells (g := g) h hg
  rcases h.2 with ⟨rfl, h0⟩ | ⟨g, cap, cur, rfl, hb, hh, hnc, hcm, _, _⟩
  · have : l = [] := List.eq_nil_of_length_eq_zero h0
    subst this
    exact ⟨none, 0, rfl, RdI.nil _ _, hlt, fun _ e => by cases e⟩
  · refine ⟨_, cap, rfl, ⟨hnc, hcm, fun e => (by cases e), fun _ => ⟨g, 0, rfl, (hlt g rfl).2, fun i hi => ?_⟩⟩, hlt, fun _ e => (by cases e; rfl)⟩
    have := hcells g rfl i (Value.int .i64 l[i]) (by simp [hi])
    rw [show (⟨g, 0, none⟩ : Addr).add i = ⟨g, 0 + i, none⟩ by unfold Addr.add; split <;> simp_all] at this
    exact this
theorem OwnI.below {w w' : World} {base B : Nat} {v : Value} {l : List Int} (h : OwnI w base v l) (hb : Below B w w') (hB : w.heap.size ≤ B) : OwnI w' base v l := by
  refine ⟨h.1, ?_⟩
  rcases h.2 with h2 | ⟨g, cap, cur, hv, hg, hh, r⟩
  · exact .inl h2
  · exact .inr ⟨g, cap, cur, hv, hg, by rw [hb.block g (by have := lt_of_block hh; omega)]; exact hh, r⟩
theorem run_append_i (w : World) (ty : TypeId) (base : Nat) (v : Value) (l : List Int) (hown : OwnI w base v l)
    (B : Nat) (A : Option Addr) (c : Nat) (k : List Int) (hr : RdI w B A c k) (hlen : l.length + k.length ≤ 1000000000) (hbase : base ≤ w.heap.size) :
    ∃ v' w', (Builtin.append_ #[104, 104] ty #[v, .slice A k.length c]).run Tryz.prog w = .ok v' w' ∧ OwnI w' base v' (l ++ k) ∧ w.grownBy w' v.ownBlock ∧ (v'.ownBlock = v.ownBlock ∨ v'.ownBlock = some w.heap.size) := by
  obtain ⟨i, hi, hz, hs, hby⟩ := info_parts i64_info
  rcases A with _ | ad
  · have hc := hr.2.2.1 rfl
    have hk : k = [] := List.eq_nil_of_length_eq_zero (by have := hr.1; omega)
    subst hk
    refine ⟨v, w, ?_, by simpa using hown, World.grownBy.refl w _, .inl rfl⟩
    have hsz : ∀ W, (Go.sizeOf 3).run Tryz.prog W = .ok 1 W := fun W => by simp [Go.sizeOf, typeInfo, hi, hs]
    rcases hown.2 with ⟨rfl, hn⟩ | ⟨g, cap, cur, rfl, _, _, hnc, _⟩
    · simp [Builtin.append_, run_underlying Tryz.underlying104, hsz, Builtin.lenOf, Builtin.firstCells]
    · simp [Builtin.append_, run_underlying Tryz.underlying104, hsz, Builtin.lenOf, Builtin.firstCells, hnc, storeCells]
  · have hcells : ∀ j u, (k.map (Value.int .i64))[j]? = some u → w.cell? (ad.add j) = some u := by
      intro j u hu
      have hj : j < k.length := by
        rcases Nat.lt_or_ge j k.length with h | h
        · exact h
        · simp [List.getElem?_eq_none h] at hu
      obtain ⟨b, o, e1, _, hc⟩ := hr.2.2.2 (by omega)
      injection e1 with e1
      subst e1
      rw [show (⟨b, o, none⟩ : Addr).add j = ⟨b, o + j, none⟩ by unfold Addr.add; split <;> simp_all, hc j hj]
      simp [hj] at hu
      rw [← hu]
    obtain ⟨v', w', hrun, h2, h3, _, h5⟩ := run_append_own_at (P := Tryz.prog) w base 104 ty 3 i _ 1 8 Tryz.underlying104 hi hz hs hby rfl (by omega) v l.length (l.map (Value.int .i64)) hown ad k.length c (k.map (Value.int .i64)) (by simp) hcells
      (by intro u hu; simp only [List.mem_map] at hu; obtain ⟨x, _, rfl⟩ := hu; rfl) (by unfold maxLen; omega) (by omega) hbase
    exact ⟨v', w', hrun, by unfold OwnI; rw [List.length_append, List.map_append]; exact h2, h3, h5⟩
theorem RdI.alloc {w : World} {B : Nat} {A : Option Addr} {c : Nat} {l : List Int} (h : RdI w B A c l) (hB : B ≤ w.heap.size) (o : Obj) : RdI (w.alloc o) B A c l :=
  h.below ((Below.refl B w).alloc hB o)
end Go.Proofs.YtcjokkjepgfinaaGreatDoor.Dk
namespace Go.Proofs.YtcjokkjepgfinaaGreatDoor.Dk
open Go.RowKit Mem Go.ChangeMaps
def zpage : List UInt8 := List.replicate 4096 0
theorem zpage_len : zpage.length = 4096 := List.length_replicate
def ints (l : List Nat) : List Int := l.map fun (i : Nat) => (i : Int)
theorem ints_len (l : List Nat) : (ints l).length = l.length := List.length_map _
structure Dsk where
  n : Nat
  last : Nat → List UInt8
  wait : Nat → Option (List UInt8)
  order : List Nat
  dead : Bool
  fuse : Option Nat
structure Fr (F : Nat → Prop) (w w' : World) : Prop where
  os : w'.os = w.os
  tape : w'.tape = w.tape
  output : w'.output = w.output
  size : w.heap.size ≤ w'.heap.size
  block : ∀ k, k < w.heap.size → ¬ F k → w'.heap[k]? = w.heap[k]?
section
variable {F G : Nat → Prop} {a w w' : World}
theorem Fr.refl (F : Nat → Prop) (w : World) : Fr F w w := ⟨rfl, rfl, rfl, Nat.le_refl _, fun _ _ _ => rfl⟩
theorem Fr.trans (h : Fr F a w) (k : Fr G w w') (hG : ∀ b, b < a.heap.size → G b → F b) : Fr F a w' :=
  ⟨k.os.trans h.os, k.tape.trans h.tape, k.output.trans h.output, Nat.le_trans h.size k.size, fun b hb hF => (k.block b (Nat.lt_of_lt_of_le hb h.size) (fun hg => hF (hG b hb hg))).trans (h.block b hb hF)⟩
theorem Fr.mono (h : Fr F w w') (hG : ∀ b, b < w.heap.size → F b → G b) : Fr G w w' := ⟨h.os, h.tape, h.output, h.size, fun b hb hF => h.block b hb (fun hf => hF (hG b hb hf))⟩
theorem Fr.alloc (w : World) (o : Obj) : Fr F w (w.alloc o) := ⟨rfl, rfl, rfl, by simp, fun k hk _ => Below.heap_alloc _ _ _ hk⟩
theorem Fr.setCell (w : World) (p : Addr) (hp : p.block < w.heap.size → F p.block) (u : Value) : Fr F w (w.setCell p u) :=
  ⟨rfl, rfl, rfl, by simp [World.setCell], fun k hk hF => Below.heap_setCell _ _ _ _ (fun e => hF (e ▸ hp (e ▸ hk)))⟩
theorem Fr.drew (h : Fr F a w) : Fr F a w.drew := ⟨h.os, h.tape, h.output, h.size, h.block⟩
theorem Fr.grown {row : Option Nat} (h : w.grownBy w' row) (hr : ∀ k, k < w.heap.size → row = some k → F k) : Fr F w w' :=
  ⟨h.os, h.tape, h.output, h.size, fun k hk hF => h.block k hk (fun e => hF (hr k hk e.symm))⟩
theorem Fr.turned {b : Nat} (h : w.mapTurned w' b) (hb : b < w.heap.size → F b) : Fr F w w' := Fr.grown h.grown (fun k hk e => by cases e; exact hb hk)
theorem Fr.ofBelow (h : Below w.heap.size w w') : Fr F w w' := ⟨h.os, h.tape, h.output, h.size, fun k hk _ => h.block k hk⟩
theorem Fr.below {B : Nat} (h : Fr F w w') (hB : B ≤ w.heap.size) (hF : ∀ k, F k → B ≤ k) : Below B w w' :=
  ⟨h.os, h.tape, h.output, h.size, fun k hk => h.block k (by omega) (fun hf => by have := hF k hf; omega)⟩
end
inductive Role where
  | disk | lasts | waits | order
  | page (i : Nat)
structure Lay where
  lb : Nat
  mb : Nat
  ov : Value
  L : Nat → Option (Nat × Nat)
  M : Nat → Option (Nat × Nat)
  m : Nat
  role : Nat → Option Role
def Lay.foot (y : Lay) (k : Nat) : Prop := y.role k ≠ none
def sl : Option (Nat × Nat) → Value
  | none => .slice none 0 0
  | some (b, c) => .slice (some ⟨b, 0, none⟩) 4096 c
def cells (y : Lay) (d : Dsk) : Nat → Value
  | 0 => .slice (some ⟨y.lb, 0, none⟩) d.n d.n
  | 1 => .map (some y.mb)
  | 2 => y.ov
  | 3 => .bool d.dead
  | 4 => .bool d.fuse.isSome
  | _ => .int .i64 ((d.fuse.getD 0 : Nat) : Int)
def LastAt (w : World) (role : Nat → Option Role) (i : Nat) (x : Option (Nat × Nat)) (l : List UInt8) : Prop :=
  match x with
  | none => l = zpage
  | some (b, c) => role b = some (.page i) ∧ Own 5 w 0 (.slice (some ⟨b, 0, none⟩) 4096 c) l
def WaitAt (w : World) (role : Nat → Option Role) (i : Nat) (x : Option (Nat × Nat)) (o : Option (List UInt8)) : Prop :=
  match x, o with
  | none, none => True
  | some (b, c), some l => role b = some (.page i) ∧ Own 5 w 0 (.slice (some ⟨b, 0, none⟩) 4096 c) l
  | _, _ => False
structure IsD (w : World) (db : Nat) (y : Lay) (d : Dsk) : Prop where
  n1 : 1 ≤ d.n
  n2 : d.n ≤ 4096
  row : w.rowIs db 106 6 (cells y d)
  lasts : w.rowIs y.lb 32 d.n (fun i => sl (y.L i))
  waits : MapIs w y.mb y.m (.slice none 0 0) (fun i => (y.M i).map fun x => sl (some x))
  ord : OwnI w 0 y.ov (ints d.order)
  lastOk : ∀ i, i < d.n → LastAt w y.role i (y.L i) (d.last i)
  waitOk : ∀ i, i < d.n → WaitAt w y.role i (y.M i) (d.wait i)
  apart : ∀ i b c b' c', y.L i = some (b, c) → y.M i = some (b', c') → b ≠ b'
  rdb : y.role db = some .disk
  rlb : y.role y.lb = some .lasts
  rmb : y.role y.mb = some .waits
  rob : ∀ k, y.ov.ownBlock = some k → y.role k = some .order
  foot : ∀ k, y.foot k → k < w.heap.size
  ordLen : d.order.length ≤ y.m
  fuseOk : d.fuse.getD 0 < 9223372036854775808
  lastLen : ∀ i, i < d.n → (d.last i).length = 4096
  waitLen : ∀ i l, i < d.n → d.wait i = some l → l.length = 4096
structure Good (d : Dsk) : Prop where
  mem : ∀ i, i ∈ d.order ↔ i < d.n ∧ d.wait i ≠ none
  nodup : d.order.Nodup
theorem Own.of_block {e : TypeId} {w w' : World} {base : Nat} {v : Value} {l : List UInt8} (h : Own e w base v l) (hk : ∀ k, v.ownBlock = some k → w'.heap[k]? = w.heap[k]?) : Own e w' base v l := by
  refine ⟨h.1, ?_⟩
  rcases h.2 with h2 | ⟨g, cap, cur, hv, hg, hh, r⟩
  · exact .inl h2
  · exact .inr ⟨g, cap, cur, hv, hg, (hk g (by rw [hv]; rfl)).trans hh, r⟩
theorem owns_of_block {e : TypeId} {w w' : World} {base s n : Nat} {v : Value} {l : List Value} (h : w.ownsRow base e s v n l) (hk : ∀ k, v.ownBlock = some k → w'.heap[k]? = w.heap[k]?) : w'.ownsRow base e s v n l := by
  refine ⟨h.1, ?_⟩
  rcases h.2 with h2 | ⟨g, cap, cur, hv, hg, hh, r⟩
  · exact .inl h2
  · exact .inr ⟨g, cap, cur, hv, hg, (hk g (by rw [hv]; rfl)).trans hh, r⟩
theorem LastAt.of_block {w w' : World} {role : Nat → Option Role} {i : Nat} {x : Option (Nat × Nat)} {l : List UInt8} (h : LastAt w role i x l) (hk : ∀ k, role k = some (.page i) → w'.heap[k]? = w.heap[k]?) : LastAt w' role i x l := by
  rcases x with _ | ⟨b, c⟩
  · exact h
  · exact ⟨h.1, Own.of_block h.2 fun k e => hk k (by cases e; exact h.1)⟩
theorem WaitAt.of_block {w w' : World} {role : Nat → Option Role} {i : Nat} {x : Option (Nat × Nat)} {o : Option (List UInt8)} (h : WaitAt w role i x o) (hk : ∀ k, role k = some (.page i) → w'.heap[k]? = w.heap[k]?) : WaitAt w' role i x o := by
  rcases x with _ | ⟨b, c⟩ <;> rcases o with _ | l
  · trivial
  · exact h
  · exact h
  · exact ⟨h.1, Own.of_block h.2 fun k e => hk k (by cases e; exact h.1)⟩
section
variable {w w' : World} {db : Nat} {y : Lay} {d : Dsk}
theorem IsD.keep (h : IsD w db y d) (hs : w.heap.size ≤ w'.heap.size) (hk : ∀ k, y.foot k → w'.heap[k]? = w.heap[k]?) : IsD w' db y d :=
  have hf : ∀ {k r}, y.role k = some r → w'.heap[k]? = w.heap[k]? := fun e => hk _ (by simp [Lay.foot, e])
  { h with
    row := h.row.of_block (hf h.rdb), lasts := h.lasts.of_block (hf h.rlb), waits := h.waits.of_block (hf h.rmb)
    ord := owns_of_block h.ord fun k e => hf (h.rob k e)
    lastOk := fun i hi => (h.lastOk i hi).of_block fun k e => hf e
    waitOk := fun i hi => (h.waitOk i hi).of_block fun k e => hf e
    foot := fun k e => Nat.lt_of_lt_of_le (h.foot k e) hs }
theorem IsD.fr {F : Nat → Prop} (h : IsD w db y d) (hf : Fr F w w') (hF : ∀ k, y.foot k → ¬ F k) : IsD w' db y d := h.keep hf.size fun k hk => hf.block k (h.foot k hk) (hF k hk)
theorem IsD.below (h : IsD w db y d) (hb : Below w.heap.size w w') : IsD w' db y d := h.keep hb.size fun k hk => hb.block k (h.foot k hk)
theorem IsD.alloc (h : IsD w db y d) (o : Obj) : IsD (w.alloc o) db y d := h.keep (by simp) fun k hk => Below.heap_alloc _ _ _ (h.foot k hk)
theorem IsD.drew (h : IsD w db y d) : IsD w.drew db y d := h.keep (Nat.le_refl _) fun _ _ => rfl
theorem IsD.fdb (h : IsD w db y d) : y.foot db := by simp [Lay.foot, h.rdb]
theorem IsD.flb (h : IsD w db y d) : y.foot y.lb := by simp [Lay.foot, h.rlb]
theorem IsD.fmb (h : IsD w db y d) : y.foot y.mb := by simp [Lay.foot, h.rmb]
theorem IsD.ne_lb (h : IsD w db y d) : db ≠ y.lb := fun e => by have := h.rdb; rw [e, h.rlb] at this; cases this
theorem IsD.ne_mb (h : IsD w db y d) : db ≠ y.mb := fun e => by have := h.rdb; rw [e, h.rmb] at this; cases this
theorem IsD.ne_lm (h : IsD w db y d) : y.lb ≠ y.mb := fun e => by have := h.rlb; rw [e, h.rmb] at this; cases this
theorem IsD.cell (h : IsD w db y d) (i : Nat) (hi : i < 6) : w.cell? ⟨db, i, none⟩ = some (cells y d i) := h.row.cell hi
theorem IsD.frozen (h : IsD w db y d) (i : Nat) : w.frozen? ⟨db, i, none⟩ = false := h.row.frozen i
theorem IsD.set (h : IsD w db y d) (i : Nat) (v : Value) (d' : Dsk) (hv : ∀ j, j < 6 → cells y d' j = if j = i then v else cells y d j) (h1 : d'.n = d.n) (h2 : d'.last = d.last) (h3 : d'.wait = d.wait) (h4 : d'.order = d.order) (h5 : d'.fuse.getD 0 < 9223372036854775808) :
    IsD (w.setCell ⟨db, i, none⟩ v) db y d' :=
  have ho : ∀ k, k ≠ db → (w.setCell ⟨db, i, none⟩ v).heap[k]? = w.heap[k]? := fun k hk => Below.heap_setCell _ _ _ _ hk
  have hn : ∀ {k r}, y.role k = some r → r ≠ .disk → k ≠ db := fun e hr e2 => hr (by rw [e2, h.rdb] at e; cases e; rfl)
  { n1 := h1 ▸ h.n1, n2 := h1 ▸ h.n2
    row := (h.row.set i v).congr fun j hj => (hv j hj).symm
    lasts := by rw [h1]; exact h.lasts.of_block (ho _ (Ne.symm h.ne_lb))
    waits := h.waits.of_block (ho _ (Ne.symm h.ne_mb))
    ord := by rw [h4]; exact owns_of_block h.ord fun k e => ho k (hn (h.rob k e) (by simp))
    lastOk := fun j hj => by rw [h2]; exact (h.lastOk j (h1 ▸ hj)).of_block fun k e => ho k (hn e (by simp))
    waitOk := fun j hj => by rw [h3]; exact (h.waitOk j (h1 ▸ hj)).of_block fun k e => ho k (hn e (by simp))
    apart := h.apart, rdb := h.rdb, rlb := h.rlb, rmb := h.rmb, rob := h.rob
    foot := fun k hk => by have := h.foot k hk; simpa [World.setCell] using this
    ordLen := h4 ▸ h.ordLen, fuseOk := h5
    lastLen := fun j hj => by rw [h2]; exact h.lastLen j (h1 ▸ hj)
    waitLen := fun j l hj e => h.waitLen j l (h1 ▸ hj) (h3 ▸ e) }
end
structure Kp (w : World) (y : Lay) (w' : World) (y' : Lay) : Prop where
  fr : Fr y.foot w w'
  foot : ∀ k, k < w.heap.size → y'.foot k → y.foot k
theorem Kp.refl (w : World) (y : Lay) : Kp w y w y := ⟨Fr.refl _ _, fun _ _ h => h⟩
theorem Kp.trans {a w w' : World} {x y z : Lay} (h : Kp a x w y) (k : Kp w y w' z) : Kp a x w' z :=
  ⟨h.fr.trans k.fr fun b hb hf => h.foot b hb hf, fun b hb hf => h.foot b hb (k.foot b (Nat.lt_of_lt_of_le hb h.fr.size) hf)⟩
theorem Kp.same {w w' : World} {y : Lay} (h : Fr y.foot w w') : Kp w y w' y := ⟨h, fun _ _ h => h⟩
theorem Kp.low {w w' : World} {y y' : Lay} {B : Nat} (h : Kp w y w' y') (hB : B ≤ w.heap.size) (hy : ∀ k, y.foot k → B ≤ k) : ∀ k, y'.foot k → B ≤ k := fun k hk => by
  rcases Nat.lt_or_ge k w.heap.size with h1 | h1
  · exact hy k (h.foot k h1 hk)
  · omega
theorem Kp.below {w w' : World} {y y' : Lay} {B : Nat} (h : Kp w y w' y') (hB : B ≤ w.heap.size) (hy : ∀ k, y.foot k → B ≤ k) : Below B w w' := h.fr.below hB hy
theorem Kp.free {w w' : World} {y y' : Lay} (h : Kp w y w' y') {k : Nat} (hk : k < w.heap.size) (hf : ¬ y.foot k) : ¬ y'.foot k ∧ w'.heap[k]? = w.heap[k]? := ⟨fun e => hf (h.foot k hk e), h.fr.block k hk hf⟩
variable {w : World} {db : Nat} {y : Lay} {d : Dsk}
abbrev ptr (db : Nat) : Value := .pointer (some ⟨db, 0, none⟩)
def Dsk.has (d : Dsk) (i : Int) : Bool := decide (0 ≤ i ∧ i < d.n)
theorem IsD.c0 (h : IsD w db y d) : w.cell? ⟨db, 0, none⟩ = some (.slice (some ⟨y.lb, 0, none⟩) d.n d.n) := h.cell 0 (by omega)
theorem IsD.c1 (h : IsD w db y d) : w.cell? ⟨db, 1, none⟩ = some (.map (some y.mb)) := h.cell 1 (by omega)
theorem IsD.c2 (h : IsD w db y d) : w.cell? ⟨db, 2, none⟩ = some y.ov := h.cell 2 (by omega)
theorem IsD.c3 (h : IsD w db y d) : w.cell? ⟨db, 3, none⟩ = some (.bool d.dead) := h.cell 3 (by omega)
theorem IsD.c4 (h : IsD w db y d) : w.cell? ⟨db, 4, none⟩ = some (.bool d.fuse.isSome) := h.cell 4 (by omega)
theorem IsD.c5 (h : IsD w db y d) : w.cell? ⟨db, 5, none⟩ = some (.int .i64 ((d.fuse.getD 0 : Nat) : Int)) := h.cell 5 (by omega)
theorem has_any (h : IsD w db y d) (i : Int) : Calls Tryz.prog 115 #[ptr db, .int .i64 i] w fun e w' => e = .returned (.bool (d.has i)) ∧ w' = w := by
  have h0 := h.c0
  by_cases hi : 0 ≤ i
  · by_cases hn : i < d.n
    · have e : d.has i = true := by simp [Dsk.has, hi, hn]
      rw [e]
      go_enter Tryz.func115, Tryz.ntmps115
      go_wp2
      go_ret
      exact ⟨rfl, rfl⟩
    · have e : d.has i = false := by simp [Dsk.has, hn]
      rw [e]
      go_enter Tryz.func115, Tryz.ntmps115
      go_wp2
      go_ret
      exact ⟨rfl, rfl⟩
  · have e : d.has i = false := by simp [Dsk.has, hi]
    rw [e]
    go_enter Tryz.func115, Tryz.ntmps115
    go_wp2
    go_ret
    exact ⟨rfl, rfl⟩
theorem dead_any (h : IsD w db y d) : Calls Tryz.prog 54 #[ptr db] w fun e w' => e = .returned (.bool d.dead) ∧ w' = w := by
  have h0 := h.c3
  go_enter Tryz.func54, Tryz.ntmps54
  go_wp2
  go_ret
  exact ⟨rfl, rfl⟩
theorem size_any (h : IsD w db y d) : Calls Tryz.prog 52 #[ptr db] w fun e w' => e = .returned (.int .i64 d.n) ∧ w' = w := by
  have h0 := h.c0
  go_enter Tryz.func52, Tryz.ntmps52
  go_wp2
  go_ret
  exact ⟨rfl, rfl⟩
theorem IsD.setDead (h : IsD w db y d) (b : Bool) : IsD (w.setCell ⟨db, 3, none⟩ (.bool b)) db y { d with dead := b } :=
  h.set 3 _ _ (fun j hj => by match j, hj with | 0, _ | 1, _ | 2, _ | 3, _ | 4, _ | 5, _ => rfl) rfl rfl rfl rfl h.fuseOk
theorem IsD.setFr (h : IsD w db y d) (i : Nat) (v : Value) : Fr y.foot w (w.setCell ⟨db, i, none⟩ v) := Fr.setCell _ _ (fun _ => h.fdb) _
theorem kill_any (h : IsD w db y d) : Calls Tryz.prog 144 #[ptr db] w fun e w' => e = .returned (.tuple #[]) ∧ IsD w' db y { d with dead := true } ∧ Kp w y w' y := by
  have h0 := h.c3
  have f0 := h.frozen 3
  have H := Lib.hid h
  clear h
  go_enter Tryz.func144, Tryz.ntmps144
  go_wp2
  first | go_end0 | (simp only [Exit.inBlock, Exit.then]; refine bodyPost_ret (results_none rfl _ _ _) rfl ?_) | refine bodyPost_ret (results_none rfl _ _ _) rfl ?_
  exact ⟨rfl, H.out.setDead true, Kp.same (H.out.setFr _ _)⟩
variable {w : World} {db : Nat} {y : Lay} {d : Dsk}
theorem enter36 (args : Array Value) (W : World) : (callFunc 114 args).run Tryz.prog W = .ok (.enter 114 args) W := by kernel_rfl
theorem enter41 (args : Array Value) (W : World) : (callFunc 108 args).run Tryz.prog W = .ok (.enter 108 args) W := by kernel_rfl
theorem enter43 (args : Array Value) (W : World) : (callFunc 142 args).run Tryz.prog W = .ok (.enter 142 args) W := by kernel_rfl
theorem hmf : ∀ (fn : Fn) (first cap : Array Value) (w : World), (Instr.makeFunc fn first cap).run Tryz.prog w = .ok (.func fn first cap) w := fun _ _ _ _ => rfl
theorem fits36 (h : IsD w db y d) (p q : Addr) (i : Int) (hp : w.cell? p = some (ptr db)) (hq : w.cell? q = some (.int .i64 i)) :
    Calls Tryz.prog 114 #[.pointer (some p), .pointer (some q)] w fun e w' => e = .returned (.bool (d.has i)) ∧ w' = w := by
  have H := Lib.hid h
  clear h
  go_enter Tryz.func114, Tryz.ntmps114
  go_wp2_with (go_at_call 115; refine (has_any H.out i).mono ?_; rintro e w1 ⟨rfl, rfl⟩)
  go_ret
  exact ⟨rfl, rfl⟩
theorem fits43 (h : IsD w db y d) (p q r : Addr) (i : Int) (A : Option Addr) (n c : Nat) (hp : w.cell? p = some (ptr db)) (hq : w.cell? q = some (.int .i64 i)) (hr : w.cell? r = some (.slice A n c)) :
    Calls Tryz.prog 142 #[.pointer (some p), .pointer (some q), .pointer (some r)] w fun e w' => e = .returned (.bool (d.has i && decide (n = 4096))) ∧ w' = w := by
  have H := Lib.hid h
  clear h
  by_cases hi : d.has i = true
  · by_cases hn : n = 4096
    · have e : (d.has i && decide (n = 4096)) = true := by simp [hi, hn]
      rw [e]
      subst hn
      go_enter Tryz.func142, Tryz.ntmps142
      go_wp2_with (go_at_call 115; refine (has_any H.out i).mono ?_; rintro e w1 ⟨rfl, rfl⟩)
      go_ret
      exact ⟨rfl, rfl⟩
    · have e : (d.has i && decide (n = 4096)) = false := by simp [hn]
      rw [e]
      have hn' : ((n : Int) == 4096) = false := by simp; omega
      go_enter Tryz.func142, Tryz.ntmps142
      go_wp2_with (go_at_call 115; refine (has_any H.out i).mono ?_; rintro e w1 ⟨rfl, rfl⟩)
      go_ret
      exact ⟨rfl, rfl⟩
  · have hi' : d.has i = false := by simpa using hi
    have e : (d.has i && decide (n = 4096)) = false := by simp [hi']
    rw [e]
    go_enter Tryz.func142, Tryz.ntmps142
    go_wp2_with (go_at_call 115; refine (has_any H.out i).mono ?_; rintro e w1 ⟨rfl, rfl⟩)
    go_ret
    exact ⟨rfl, rfl⟩
theorem fits41 (w : World) : Calls Tryz.prog 108 #[] w fun e w' => e = .returned (.bool true) ∧ w' = w := by
  go_enter Tryz.func108, Tryz.ntmps108
  go_wp2
  go_ret
  exact ⟨rfl, rfl⟩
def refuse (d : Dsk) (fits : Bool) : Int := if d.dead then 9 else if fits then 0 else 1
theorem refuses_any (h : IsD w db y d) (F : Nat) (cap : Array Value) (b : Bool) (hin : ∀ W, (callFunc F cap).run Tryz.prog W = .ok (.enter F cap) W) (hf : Calls Tryz.prog F cap w fun e w' => e = .returned (.bool b) ∧ w' = w) :
    Calls Tryz.prog 107 #[ptr db, .func (.func F) #[] cap] w fun e w' => e = .returned (.int .i64 (refuse d b)) ∧ w' = w := by
  have h3 := h.c3
  have H := Lib.hid h
  have H2 := Lib.hid hf
  clear h hf
  by_cases hd : d.dead = true
  · have e : refuse d b = 9 := by simp [refuse, hd]
    rw [e]
    rw [hd] at h3
    go_enter Tryz.func107, Tryz.ntmps107
    go_wp2
    go_ret
    exact ⟨rfl, rfl⟩
  · have hd' : d.dead = false := by simpa using hd
    rw [hd'] at h3
    cases b with
    | true =>
      have e : refuse d true = 0 := by simp [refuse, hd']
      rw [e]
      go_enter Tryz.func107, Tryz.ntmps107
      go_wp2_with (with_reducible refine H2.out.mono ?_; rintro e w1 ⟨rfl, rfl⟩)
      go_ret
      exact ⟨rfl, rfl⟩
    | false =>
      have e : refuse d false = 1 := by simp [refuse, hd']
      rw [e]
      go_enter Tryz.func107, Tryz.ntmps107
      go_wp2_with (with_reducible refine H2.out.mono ?_; rintro e w1 ⟨rfl, rfl⟩)
      go_ret
      exact ⟨rfl, rfl⟩
theorem refuses_nil (w : World) (f : Value) : Calls Tryz.prog 107 #[.pointer none, f] w fun e w' => e = .returned (.int .i64 8) ∧ w' = w := by
  go_enter Tryz.func107, Tryz.ntmps107
  go_wp2
  go_ret
  exact ⟨rfl, rfl⟩
def Dsk.burnt (d : Dsk) : Bool := d.fuse == some 0
def Dsk.burn (d : Dsk) : Dsk := match d.fuse with | none => d | some 0 => { d with dead := true } | some (k + 1) => { d with fuse := some k }
theorem burns_any (h : IsD w db y d) : Calls Tryz.prog 109 #[ptr db] w fun e w' => e = .returned (.bool d.burnt) ∧ IsD w' db y d.burn ∧ Kp w y w' y := by
  have h4 := h.c4
  have h5 := h.c5
  have f5 := h.frozen 5
  have hlt := h.fuseOk
  have H := Lib.hid h
  clear h
  rcases hf : d.fuse with _ | k
  · have e : d.burnt = false := by simp [Dsk.burnt, hf]
    have e2 : d.burn = d := by simp [Dsk.burn, hf]
    rw [e, e2]
    rw [hf] at h4 h5
    clear hf
    go_enter Tryz.func109, Tryz.ntmps109
    go_wp2
    go_ret
    exact ⟨rfl, H.out, Kp.refl _ _⟩
  · rcases k with _ | k
    · have e : d.burnt = true := by simp [Dsk.burnt, hf]
      have e2 : d.burn = { d with dead := true } := by simp [Dsk.burn, hf]
      rw [e, e2]
      rw [hf] at h4 h5
      clear hf
      go_enter Tryz.func109, Tryz.ntmps109
      go_wp2_with (go_at_call 144; refine (kill_any H.out).mono ?_; rintro e w1 ⟨rfl, hd1, hk1⟩; have H1 := Lib.hid hd1; have H2 := Lib.hid hk1; clear hd1 hk1)
      go_ret
      exact ⟨rfl, H1.out, H2.out⟩
    · have e : d.burnt = false := by simp [Dsk.burnt, hf]
      have e2 : d.burn = { d with fuse := some k } := by simp [Dsk.burn, hf]
      rw [e, e2]
      rw [hf] at h4 h5 hlt
      simp only [Option.getD_some] at h5 hlt
      have K : IsD (w.setCell ⟨db, 5, none⟩ (.int .i64 (k : Int))) db y { d with fuse := some k } :=
        H.out.set 5 _ _ (fun j hj => by match j, hj with | 0, _ | 1, _ | 2, _ | 3, _ | 5, _ => rfl | 4, _ => simp [cells, hf]) rfl rfl rfl rfl (by simp; omega)
      have K := Lib.hid K
      have F1 := Lib.hid (H.out.setFr 5 (.int .i64 (k : Int)))
      clear hf
      have e1 : wrap64 (((k + 1 : Nat) : Int) - 1) = (k : Int) := by unfold wrap64; omega
      have e3 : ¬ (((k + 1 : Nat) : Int) = 0) := by omega
      go_enter Tryz.func109, Tryz.ntmps109
      go_wp2
      go_ret
      exact ⟨rfl, K.out, Kp.same F1.out⟩
variable {w : World} {db : Nat} {y : Lay} {d : Dsk}
theorem u8_info : (Tryz.prog.info? 5).map (fun i => (i.zero, i.size, i.bytes)) = some (some (.int .u8 0), 1, 1) := by kernel_rfl
theorem byteTy : ByteTy Tryz.prog 32 5 := ⟨Tryz.underlying32, Tryz.underlying5, by
  obtain ⟨i, h1, h2, h3, h4⟩ := info_parts u8_info
  exact ⟨i, h1, h2, h3, h4⟩⟩
theorem row_info : (Tryz.prog.info? 32).map (fun i => (i.zero, i.size, i.bytes)) = some (some (.slice none 0 0), 1, 24) := by kernel_rfl
theorem zero42 (W : World) : (zeroValue 32).run Tryz.prog W = .ok (.slice none 0 0) W := by kernel_rfl
theorem clone_any (A : Option Addr) (c n : Nat) (l : List UInt8) (w : World) (hr : Rd w w.heap.size A c l) (hl : l.length = n) (hn : n ≤ 140737488355328) :
    Calls Tryz.prog 143 #[.slice A n c] w fun e w' => ∃ v, e = .returned v ∧ Own 5 w' w.heap.size v l ∧ Below w.heap.size w w' := by
  have he := fun (a : Option Addr) (l c : Nat) => Lib.run_eql_slice_nil (P := Tryz.prog) w 32 5 a l c 0 0 Tryz.underlying32
  rcases A with _ | ad
  · have h0 := hr.2.2.1 rfl
    have : l = [] := List.eq_nil_of_length_eq_zero (by have := hr.1; omega)
    subst this
    go_enter Tryz.func143, Tryz.ntmps143
    go_wp2
    go_ret
    exact ⟨_, rfl, Own.nil _ _ _, Below.refl _ _⟩
  · subst hl
    have hHr := Lib.hid hr
    clear hr
    go_enter Tryz.func143, Tryz.ntmps143
    go_wp2_with (at_builtin; refine wpList_append_rd byteTy rfl _ _ rfl w.heap.size _ [] rfl (Own.lit 5 w [] _ (Nat.le_refl _) (Nat.zero_le _)) w.heap.size _ _ _ _ rfl rfl (hHr.out.alloc (Nat.le_refl _) _) (by simpa using hn) (by simp) ?_; intro v2 w2 hown2 hg2 hat2)
    go_ret
    exact ⟨_, rfl, by simpa using hown2, own_trans ((Below.refl _ w).alloc (Nat.le_refl _) _) hg2 (fun k hk => by change some w.heap.size = some k at hk; injection hk; omega)⟩
theorem OwnI.lit (w : World) (l : List Int) (base : Nat) (hb : base ≤ w.heap.size) (h : l.length ≤ maxLen) : OwnI (w.alloc (.cells (l.map (Value.int .i64)).toArray 3)) base (.slice (some ⟨w.heap.size, 0, none⟩) l.length l.length) l := by
  have := World.ownsRow_lit (size := 1) (e := 3) w (l.map (Value.int .i64)).toArray l.length hb h (by simp)
  unfold OwnI
  simpa using this
def Dsk.forget (d : Dsk) : Dsk := { d with wait := fun _ => none, order := [] }
def Lay.forget (y : Lay) : Lay := { y with ov := .slice none 0 0, M := fun _ => none, m := 0 }
theorem IsD.clearTo {w1 : World} (hrow : w.rowIs db 106 6 (cells y d)) (n1 : 1 ≤ d.n) (n2 : d.n ≤ 4096) (hlasts : w.rowIs y.lb 32 d.n (fun i => sl (y.L i))) (hl : ∀ i, i < d.n → LastAt w y.role i (y.L i) (d.last i))
    (rdb : y.role db = some .disk) (rlb : y.role y.lb = some .lasts) (rmb : y.role y.mb = some .waits) (foot : ∀ k, y.foot k → k < w.heap.size) (fuseOk : d.fuse.getD 0 < 9223372036854775808) (lastLen : ∀ i, i < d.n → (d.last i).length = 4096)
    (hm : MapIs w1 y.mb 0 (.slice none 0 0) (fun _ => none)) (ht : w.mapTurned w1 y.mb) :
    IsD (w1.setCell ⟨db, 2, none⟩ (.slice none 0 0)) db y.forget d.forget ∧ Kp w y (w1.setCell ⟨db, 2, none⟩ (.slice none 0 0)) y.forget := by
  have hnm : ∀ {k r}, y.role k = some r → r ≠ .waits → k ≠ y.mb := fun e hr e2 => hr (by rw [e2, rmb] at e; cases e; rfl)
  have hnd : ∀ {k r}, y.role k = some r → r ≠ .disk → k ≠ db := fun e hr e2 => hr (by rw [e2, rdb] at e; cases e; rfl)
  have hg := ht.grown
  have h1 : ∀ {k r}, y.role k = some r → r ≠ .waits → w1.heap[k]? = w.heap[k]? := fun {k r} e hr => hg.block k (foot k (by simp [Lay.foot, e])) (fun e2 => hnm e hr (by injection e2))
  have h2 : ∀ {k r}, y.role k = some r → r ≠ .disk → (w1.setCell ⟨db, 2, none⟩ (.slice none 0 0)).heap[k]? = w1.heap[k]? := fun e hr => Below.heap_setCell _ _ _ _ (hnd e hr)
  have h3 : ∀ {k r}, y.role k = some r → r ≠ .waits → r ≠ .disk → (w1.setCell ⟨db, 2, none⟩ (.slice none 0 0)).heap[k]? = w.heap[k]? := fun e hr hr' => (h2 e hr').trans (h1 e hr)
  refine ⟨{ n1 := n1, n2 := n2
            row := ((hrow.of_block (h1 rdb (by simp))).set 2 (.slice none 0 0)).congr fun j hj => by match j, hj with | 0, _ | 1, _ | 2, _ | 3, _ | 4, _ | 5, _ => rfl
            lasts := hlasts.of_block (h3 rlb (by simp) (by simp))
            waits := hm.of_block (h2 rmb (by simp))
            ord := OwnI.nil _ _
            lastOk := fun i hi => (hl i hi).of_block fun k e => h3 e (by simp) (by simp)
            waitOk := fun i hi => trivial
            apart := fun i b c b' c' _ e => by cases e
            rdb := rdb, rlb := rlb, rmb := rmb
            rob := fun k e => by cases e
            foot := fun k hk => by have := foot k hk; have := hg.size; simp [World.setCell]; omega
            ordLen := Nat.zero_le _, fuseOk := fuseOk, lastLen := lastLen, waitLen := fun i l _ e => by cases e }, ?_⟩
  refine ⟨(Fr.turned ht (fun _ => by simp [Lay.foot, rmb])).trans (Fr.setCell (F := y.foot) _ _ (fun _ => by simp [Lay.foot, rdb]) _) fun _ _ h => h, fun k _ hk => hk⟩
variable {w : World} {db : Nat} {y : Lay} {d : Dsk}
def newD (n : Nat) : Dsk := ⟨n, fun _ => zpage, fun _ => none, [], false, none⟩
def newY (N : Nat) : Lay := ⟨N, N + 1, .slice none 0 0, fun _ => none, fun _ => none, 0, fun k => if k = N then some .lasts else if k = N + 1 then some .waits else if k = N + 2 then some .disk else none⟩
theorem newY_low (N k : Nat) (h : (newY N).foot k) : N ≤ k ∧ k < N + 3 := by
  unfold Lay.foot newY at h
  simp only at h
  split at h
  · omega
  · split at h
    · omega
    · split at h
      · omega
      · exact absurd rfl h
theorem madeAt (w : World) (n : Nat) (h1 : 1 ≤ n) (h2 : n ≤ 4096) :
    IsD (((w.alloc (.cells (madeCells #[.slice none 0 0] n) 32)).alloc (.map #[] 0)).alloc (.cells #[.slice (some ⟨w.heap.size, 0, none⟩) n n, .map (some (w.heap.size + 1)), .slice none 0 0, .bool false, .bool false, .int .i64 0] 106)) (w.heap.size + 2) (newY w.heap.size) (newD n) := by
  have a1 := World.rowIs_made w (.slice none 0 0) n 32
  have a2 := (a1.alloc (.map #[] 0)).alloc (.cells #[.slice (some ⟨w.heap.size, 0, none⟩) n n, .map (some (w.heap.size + 1)), .slice none 0 0, .bool false, .bool false, .int .i64 0] 106)
  have b1 := MapIs.made (w.alloc (.cells (madeCells #[.slice none 0 0] n) 32)) (.slice none 0 0) (zd := .nil) rfl
  have b2 := b1.of_block (w' := ((w.alloc (.cells (madeCells #[.slice none 0 0] n) 32)).alloc (.map #[] 0)).alloc (.cells #[.slice (some ⟨w.heap.size, 0, none⟩) n n, .map (some (w.heap.size + 1)), .slice none 0 0, .bool false, .bool false, .int .i64 0] 106)) (Below.heap_alloc _ _ _ (by simp))
  rw [size_alloc'] at b2
  have c1 := World.rowIs_alloc ((w.alloc (.cells (madeCells #[.slice none 0 0] n) 32)).alloc (.map #[] 0)) #[.slice (some ⟨w.heap.size, 0, none⟩) n n, .map (some (w.heap.size + 1)), .slice none 0 0, .bool false, .bool false, .int .i64 0] 106 (cells (newY w.heap.size) (newD n))
    (fun i hi => by match i, hi with | 0, _ | 1, _ | 2, _ | 3, _ | 4, _ | 5, _ => rfl)
  rw [size_alloc', size_alloc'] at c1
  exact { n1 := h1, n2 := h2, row := c1, lasts := a2, waits := b2, ord := OwnI.nil _ _
          lastOk := fun i _ => rfl, waitOk := fun i _ => trivial, apart := fun i b c b' c' e => by cases e
          rdb := by simp [newY], rlb := by simp [newY], rmb := by simp [newY]
          rob := fun k e => by cases e
          foot := fun k hk => by have := (newY_low _ _ hk).2; simp; omega
          ordLen := Nat.zero_le _, fuseOk := by simp [newD]
          lastLen := fun i _ => zpage_len, waitLen := fun i l _ e => by cases e }
theorem newD_good (n : Nat) : Good (newD n) := ⟨fun i => by simp [newD], List.nodup_nil⟩
theorem new_any (n : Nat) (w : World) (h1 : 1 ≤ n) (h2 : n ≤ 4096) :
    Calls Tryz.prog 26 #[.int .i64 n] w fun e w' => e = .returned (.tuple #[ptr (w.heap.size + 2), .int .i64 0]) ∧ IsD w' (w.heap.size + 2) (newY w.heap.size) (newD n) ∧ Below w.heap.size w w' := by
  have hmk := run_make_row' (P := Tryz.prog) 103 32 (.slice none 0 0) 24 Tryz.underlying103 row_info rfl .i64 .i64 n (by omega) (by omega)
  have hmm := @run_makeMap Tryz.prog
  have g1 : ¬ ((n : Int) < 1) := by omega
  have g2 : ¬ ((4096 : Int) < n) := by omega
  have H := Lib.hid (madeAt w n h1 h2)
  clear h1 h2
  go_enter Tryz.func26, Tryz.ntmps26
  go_wp2
  go_ret2
  refine ⟨rfl, H.out, ?_⟩
  exact (((Below.refl _ w).alloc (Nat.le_refl _) _).alloc (by simp) _).alloc (by simp; omega) _
end Go.Proofs.YtcjokkjepgfinaaGreatDoor.Dk
namespace Go.Proofs.YtcjokkjepgfinaaGreatDoor.Dk
set_option maxRecDepth 8000
open Go.RowKit Mem Go.ChangeMaps
variable {w : World} {db : Nat} {y : Lay} {d : Dsk}
def Dsk.page (d : Dsk) (i : Nat) : List UInt8 := (d.wait i).getD (d.last i)
theorem makePage : ∀ W, (Instr.makeSlice 32 (.int .i64 4096) (.int .i64 4096)).run Tryz.prog W = .ok (.slice (some ⟨W.heap.size, 0, none⟩) 4096 4096) (W.alloc (.cells (bcs zpage) 5)) := by
  intro W
  have hr := run_make_row' (P := Tryz.prog) 32 5 (.int .u8 0) 1 Tryz.underlying32 u8_info rfl .i64 .i64 4096 (by omega) (by omega) W
  rw [bcs_zeros] at hr
  exact hr
theorem lt_of_cell {w : World} {p : Addr} {v : Value} (h : w.cell? p = some v) : p.block < w.heap.size := by
  rcases Nat.lt_or_ge p.block w.heap.size with h' | h'
  · exact h'
  · simp [World.cell?, Array.getElem?_eq_none h'] at h
theorem cell_alloc {w : World} {p : Addr} {v : Value} (h : w.cell? p = some v) (o : Obj) : (w.alloc o).cell? p = some v :=
  (World.cell?_of_block (w := w) (Below.heap_alloc _ _ _ (lt_of_cell h))).trans h
theorem cell_alloc_new (w : World) (v : Value) (t : TypeId) : (w.alloc (.cells #[v] t)).cell? ⟨w.heap.size, 0, none⟩ = some v := by
  rw [cell_of_row _ _ _ _ _ _ (heap_alloc_new w _)]; rfl
abbrev boxed (w : World) (db : Nat) (i : Int) : World := (w.alloc (.cells #[ptr db] 60)).alloc (.cells #[.int .i64 i] 3)
theorem IsD.refused36 (h : IsD w db y d) (i : Int) :
    Calls Tryz.prog 107 #[ptr db, .func (.func 114) #[] #[.pointer (some ⟨w.heap.size, 0, none⟩), .pointer (some ⟨w.heap.size + 1, 0, none⟩)]] (boxed w db i) fun e w' => e = .returned (.int .i64 (refuse d (d.has i))) ∧ w' = boxed w db i := by
  have hb : IsD (boxed w db i) db y d := (h.alloc _).alloc _
  refine refuses_any hb 114 _ (d.has i) (enter36 _) ?_
  refine fits36 hb _ _ i (cell_alloc (cell_alloc_new w _ _) _) ?_
  have := cell_alloc_new (w.alloc (.cells #[ptr db] 60)) (.int .i64 i) 3
  rwa [size_alloc'] at this
theorem read_bad (h : IsD w db y d) (i : Int) (hb : refuse d (d.has i) ≠ 0) :
    Calls Tryz.prog 81 #[ptr db, .int .i64 i] w fun e w' => e = .returned (.tuple #[.slice none 0 0, .int .i64 (refuse d (d.has i))]) ∧ Below w.heap.size w w' := by
  have H := Lib.hid h
  have H1 := Lib.hid (((Below.refl _ w).alloc (Nat.le_refl _) (.cells #[ptr db] 60)).alloc (by simp) (.cells #[.int .i64 i] 3))
  have hr := (H.out.refused36 i)
  generalize refuse d (d.has i) = r at hb hr ⊢
  have H2 := Lib.hid hr
  have hmk := hmf
  clear h hr
  go_enter Tryz.func81, Tryz.ntmps81
  go_wp2_with (go_at_call 107; refine H2.out.mono ?_; rintro e w1 ⟨rfl, rfl⟩)
  go_ret2
  exact ⟨rfl, H1.out⟩
theorem own_len {w : World} {base b n c : Nat} {l : List UInt8} (h : Own 5 w base (.slice (some ⟨b, 0, none⟩) n c) l) : l.length = n := by
  rcases h.2 with ⟨e, _⟩ | ⟨g, cap, cur, e, _⟩
  · cases e
  · injection e with _ e2; exact e2.symm
theorem own_cell {w : World} {base b n c : Nat} {l : List UInt8} (h : Own 5 w base (.slice (some ⟨b, 0, none⟩) n c) l) (j : Nat) (hj : j < l.length) : w.cell? ⟨b, j, none⟩ = some (bv l[j]) := by
  have := World.ownsRow.cells (g := b) h rfl j (bv l[j]) (by simp [hj])
  rwa [show (⟨b, 0, none⟩ : Addr).add j = ⟨b, j, none⟩ by unfold Addr.add; split <;> simp_all] at this
theorem own_row {w : World} (g : Nat) (l : List UInt8) (base : Nat) (hb : base ≤ g) (hm : l.length ≤ maxLen) (h : w.heap[g]? = some (.cells (bcs l) 5 (0, 0))) : Own 5 w base (.slice (some ⟨g, 0, none⟩) l.length l.length) l :=
  ⟨by simp, .inr ⟨g, l.length, bcs l, rfl, hb, h, Nat.le_refl _, hm, by simp [bcs], by simp [bcs, List.take_of_length_le]⟩⟩
theorem goInt_nat (n : Nat) : goInt n = .int .i64 (n : Int) := rfl
theorem u8_size : (Tryz.prog.info? 5).map (·.size) = some 1 := by kernel_rfl
theorem copyPage (W : World) (ty : TypeId) (g b c : Nat) (z l : List UInt8) (hz : z.length = 4096) (hg : W.heap[g]? = some (.cells (bcs z) 5 (0, 0))) (ho : Own 5 W 0 (.slice (some ⟨b, 0, none⟩) 4096 c) l) :
    (Builtin.copy_ #[32, 32] ty #[.slice (some ⟨g, 0, none⟩) 4096 4096, .slice (some ⟨b, 0, none⟩) 4096 c]).run Tryz.prog W = .ok (.int .i64 4096) (W.setRow g (bcs l)) := by
  have hl := own_len ho
  have h := run_copy_row (P := Tryz.prog) W 32 32 ty 5 g 0 4096 4096 ⟨b, 0, none⟩ 4096 c (bcs z) 5 (l.map bv) Tryz.underlying32 u8_size hg (by simp [hl])
    (fun j v hv => by
      have hj : j < l.length := by
        rcases Nat.lt_or_ge j l.length with h | h
        · exact h
        · simp [List.getElem?_eq_none h] at hv
      rw [show (⟨b, 0, none⟩ : Addr).add j = ⟨b, j, none⟩ by unfold Addr.add; split <;> simp_all, own_cell ho j hj]
      simp [hj] at hv
      rw [hv])
    (by rw [size_bcs]; simp [hl, hz]) (by intro v hv; simp only [List.mem_map] at hv; obtain ⟨x, _, rfl⟩ := hv; rfl)
  rw [h, goInt_nat]
  congr 1
  · simp [hl]
  · congr 1
    apply Array.toList_inj.1
    simp [bcs, hl, hz]
theorem copyNil (W : World) (ty : TypeId) (g : Nat) : (Builtin.copy_ #[32, 32] ty #[.slice (some ⟨g, 0, none⟩) 4096 4096, .slice none 0 0]).run Tryz.prog W = .ok (.int .i64 0) W := by
  have h := run_copy_none (P := Tryz.prog) W 32 32 ty 5 (some ⟨g, 0, none⟩) none 4096 4096 0 0 Tryz.underlying32 u8_size (by rfl)
  rw [h]; rfl
theorem zpage_max : zpage.length ≤ maxLen := by rw [zpage_len]; unfold maxLen; omega
theorem IsD.drewN (h : IsD w db y d) (n : Nat) : IsD (w.drewN n) db y d := h.keep (by rw [show (w.drewN n).heap = w.heap from (World.drewN_alike w n).1]; exact Nat.le_refl _) fun _ _ => by rw [show (w.drewN n).heap = w.heap from (World.drewN_alike w n).1]
theorem filled {w W : World} {g : Nat} {l : List UInt8} (hb : Below w.heap.size w W) (hg : W.heap[g]? = some (.cells (bcs zpage) 5 (0, 0))) (hgs : w.heap.size ≤ g) (hl : l.length = 4096) :
    Own 5 (W.setRow g (bcs l)) w.heap.size (.slice (some ⟨g, 0, none⟩) 4096 4096) l ∧ Below w.heap.size w (W.setRow g (bcs l)) := by
  have h1 := setRow_heap W g (bcs zpage) (bcs l) 5 _ hg
  have h2 := own_row (w := W.setRow g (bcs l)) g l w.heap.size hgs (by rw [hl]; unfold maxLen; omega) h1
  rw [hl] at h2
  refine ⟨h2, hb.trans ⟨rfl, rfl, rfl, by simp [World.setRow], fun k hk => setRow_other W g k _ (by omega)⟩⟩
theorem drewN_cell (W : World) (n : Nat) (a : Addr) : (W.drewN n).cell? a = W.cell? a := by rw [World.cell?, World.cell?, show (W.drewN n).heap = W.heap from (World.drewN_alike W n).1]
theorem read_ok (h : IsD w db y d) (i : Nat) (hd : d.dead = false) (hi : i < d.n) :
    Calls Tryz.prog 81 #[ptr db, .int .i64 i] w fun e w' => ∃ v, e = .returned (.tuple #[v, .int .i64 0]) ∧ Own 5 w' w.heap.size v (d.page i) ∧ Below w.heap.size w w' := by
  have hr := (h.refused36 i)
  have e0 : refuse d (d.has i) = 0 := by simp [refuse, hd, Dsk.has, hi]
  rw [e0] at hr
  have H2 := Lib.hid hr
  have hmk := hmf
  have hmp := makePage
  have n2 := h.n2
  obtain ⟨W, hW⟩ : ∃ W, W = (boxed w db i).alloc (.cells (bcs zpage) 5) := ⟨_, rfl⟩
  have hD : IsD W db y d := hW ▸ ((h.alloc _).alloc _).alloc _
  have a1 : W.cell? ⟨w.heap.size, 0, none⟩ = some (ptr db) := hW ▸ cell_alloc (cell_alloc (cell_alloc_new w _ _) _) _
  have a2 : W.cell? ⟨w.heap.size + 1, 0, none⟩ = some (.int .i64 i) := by
    have := cell_alloc (cell_alloc_new (w.alloc (.cells #[ptr db] 60)) (.int .i64 i) 3) (.cells (bcs zpage) 5)
    rw [size_alloc'] at this
    rw [hW]; exact this
  have hg : ∀ n, (W.drewN n).heap[w.heap.size + 2]? = some (.cells (bcs zpage) 5 (0, 0)) := fun n => by
    rw [show (W.drewN n).heap = W.heap from (World.drewN_alike W n).1, hW]
    have := heap_alloc_new (boxed w db i) (.cells (bcs zpage) 5)
    rwa [size_alloc', size_alloc'] at this
  have hB : Below w.heap.size w W := hW ▸ (((Below.refl _ w).alloc (Nat.le_refl _) _).alloc (by simp) _).alloc (by simp; omega) _
  have b0 := hD.c0
  have b1 := hD.c1
  have hlk : ∀ n, (Instr.lookup 93 (.map (some y.mb)) (.int .i64 i) true).run Tryz.prog (W.drewN n) = .ok (.tuple #[((y.M i).map fun x => sl (some x)).getD (.slice none 0 0), .bool ((y.M i).map fun x => sl (some x)).isSome]) (W.drewN n) :=
    fun n => ((hD.drewN n).waits.look_ok Tryz.underlying93 (zero42 _) i (by omega))
  have hL := (hD.lasts.cell hi)
  have hWt := fun n => (hD.drewN n).waitOk i hi
  have hLs := fun n => (hD.drewN n).lastOk i hi
  have hll := hD.lastLen i hi
  have hwl := fun l => hD.waitLen i l hi
  have hBn := fun n => below_drewN hB n
  have H := Lib.hid hD
  have HG := Lib.hid hg
  have HB := Lib.hid hBn
  have HW := Lib.hid hW
  have hpg : d.page i = (d.wait i).getD (d.last i) := rfl
  generalize d.page i = pg at hpg ⊢
  clear h hr e0 hD hg hB hBn hd n2 hW
  rcases hM : y.M i with _ | ⟨b, c⟩
  · rw [hM] at hlk
    simp only [Option.map_none, Option.getD_none, Option.isSome_none] at hlk
    have hwt : d.wait i = none := by
      rcases hwt : d.wait i with _ | l
      · rfl
      · have := hWt 0
        rw [hM, hwt] at this
        exact this.elim
    have hpl : pg = d.last i := by rw [hpg, hwt]; rfl
    rw [hpl]
    have i1 : ((i : Nat) : Int) < (d.n : Int) := by omega
    have i2 : ¬ ((i : Nat) : Int) < 0 := by omega
    rcases hLi : y.L i with _ | ⟨b, c⟩
    · have hz : d.last i = zpage := by have := hLs 0; rw [hLi] at this; exact this
      rw [hz]
      rw [hLi] at hL
      simp only [sl] at hL
      have hcp : ∀ n, (Builtin.copy_ #[32, 32] 3 #[.slice (some ⟨w.heap.size + 1 + 1, 0, none⟩) 4096 4096, .slice none 0 0]).run Tryz.prog (W.drewN n) = .ok (.int .i64 0) (W.drewN n) := fun n => copyNil _ _ _
      have hcp' := fun n => hcp (n + 1)
      have F := fun n => Lib.hid (show Own 5 (W.drewN n) w.heap.size (.slice (some ⟨w.heap.size + 2, 0, none⟩) 4096 4096) zpage from zpage_len ▸ own_row _ zpage _ (by omega) zpage_max (HG.out n))
      clear hWt hLs hll hwl hpg hpl hM hwt hz hLi
      go_enter Tryz.func81, Tryz.ntmps81
      go_wp2_with (go_at_call 107; refine H2.out.mono ?_; rintro e w1 ⟨rfl, rfl⟩)
      rw [← HW.out]; clear HW
      go_quiet (fail)
      go_wp2
      have v1 := (drewN_cell W nq _).trans a1
      have v2 := (drewN_cell W nq _).trans a2
      have v3 := (drewN_cell W nq _).trans b0
      have v4 := (drewN_cell W nq _).trans hL
      have v5 := hcp (nq + 1)
      have v6 := F (nq + 1)
      have v7 := Lib.hid (HB.out (nq + 1))
      change Sem.run Tryz.prog _ (W.drewN nq).drew = .ok _ (W.drewN nq).drew at v5
      change Hid (Own 5 (W.drewN nq).drew _ _ _) at v6
      change Hid (Below _ _ (W.drewN nq).drew) at v7
      clear a1 a2 b0 b1 hL hcp hcp' F HB HG hlk H
      generalize W.drewN nq = V at v1 v2 v3 v4 v5 v6 v7 ⊢
      go_still_tail 8, (by kernel_rfl)
      change wpList _ _ _ _ _ V.drew
      go_wp2
      go_ret2
      exact ⟨_, rfl, v6.out, v7.out⟩
    · rw [hLi] at hL
      simp only [sl] at hL
      have hcp : ∀ n, (Builtin.copy_ #[32, 32] 3 #[.slice (some ⟨w.heap.size + 1 + 1, 0, none⟩) 4096 4096, .slice (some ⟨b, 0, none⟩) 4096 c]).run Tryz.prog (W.drewN n) = .ok (.int .i64 4096) ((W.drewN n).setRow (w.heap.size + 2) (bcs (d.last i))) := fun n =>
        copyPage (W.drewN n) 3 (w.heap.size + 2) b c zpage (d.last i) zpage_len (HG.out n) (by have := hLs n; rw [hLi] at this; exact this.2)
      have F := fun n => Lib.hid (filled (HB.out n) (HG.out n) (by omega) hll)
      generalize d.last i = l at hcp F ⊢
      clear hWt hLs hll hwl hpg hpl hM hwt hLi
      go_enter Tryz.func81, Tryz.ntmps81
      go_wp2_with (go_at_call 107; refine H2.out.mono ?_; rintro e w1 ⟨rfl, rfl⟩)
      rw [← HW.out]; clear HW
      go_quiet (fail)
      go_wp2
      have v1 := (drewN_cell W nq _).trans a1
      have v2 := (drewN_cell W nq _).trans a2
      have v3 := (drewN_cell W nq _).trans b0
      have v4 := (drewN_cell W nq _).trans hL
      have v5 := hcp (nq + 1)
      have v6 := F (nq + 1)
      change Sem.run Tryz.prog _ (W.drewN nq).drew = .ok _ ((W.drewN nq).drew.setRow _ _) at v5
      change Hid (Own 5 ((W.drewN nq).drew.setRow _ _) _ _ _ ∧ Below _ _ ((W.drewN nq).drew.setRow _ _)) at v6
      clear a1 a2 b0 b1 hL hcp F HB HG hlk H
      generalize W.drewN nq = V at v1 v2 v3 v4 v5 v6 ⊢
      go_still_tail 8, (by kernel_rfl)
      change wpList _ _ _ _ _ V.drew
      go_wp2
      go_ret2
      exact ⟨_, rfl, v6.out.1, v6.out.2⟩
  · rw [hM] at hlk
    simp only [Option.map_some, Option.getD_some, Option.isSome_some, sl] at hlk
    rcases hwt : d.wait i with _ | l
    · have := hWt 0
      rw [hM, hwt] at this
      exact this.elim
    · have hpl : pg = l := by rw [hpg, hwt]; rfl
      have hlen := hwl l hwt
      have hcp : ∀ n, (Builtin.copy_ #[32, 32] 3 #[.slice (some ⟨w.heap.size + 1 + 1, 0, none⟩) 4096 4096, .slice (some ⟨b, 0, none⟩) 4096 c]).run Tryz.prog (W.drewN n) = .ok (.int .i64 4096) ((W.drewN n).setRow (w.heap.size + 2) (bcs l)) := fun n =>
        copyPage (W.drewN n) 3 (w.heap.size + 2) b c zpage l zpage_len (HG.out n) (by have := hWt n; rw [hM, hwt] at this; exact this.2)
      have F := fun n => Lib.hid (filled (HB.out n) (HG.out n) (by omega) hlen)
      rw [hpl]
      clear hWt hLs hll hwl hpg hpl hM hwt hL hlen
      go_enter Tryz.func81, Tryz.ntmps81
      go_wp2_with (go_at_call 107; refine H2.out.mono ?_; rintro e w1 ⟨rfl, rfl⟩)
      rw [← HW.out]; clear HW
      go_quiet (fail)
      go_wp2
      go_ret2
      exact ⟨_, rfl, (F _).out.1, (F _).out.2⟩
variable {w : World} {db : Nat} {y : Lay} {d : Dsk}
def Dsk.pushed (d : Dsk) (i : Nat) : Dsk := { d with order := d.order ++ [i] }
def Dsk.laid (d : Dsk) (i : Nat) (l : List UInt8) : Dsk := { d with wait := fun j => if j = i then some l else d.wait j }
def Dsk.put (d : Dsk) (i : Nat) (l : List UInt8) : Dsk := if (d.wait i).isSome then d.laid i l else (d.pushed i).laid i l
abbrev boxed3 (w : World) (db : Nat) (i : Int) (A : Option Addr) (n c : Nat) : World := ((w.alloc (.cells #[ptr db] 60)).alloc (.cells #[.int .i64 i] 3)).alloc (.cells #[.slice A n c] 32)
theorem IsD.refused43 (h : IsD w db y d) (i : Int) (A : Option Addr) (n c : Nat) :
    Calls Tryz.prog 107 #[ptr db, .func (.func 142) #[] #[.pointer (some ⟨w.heap.size, 0, none⟩), .pointer (some ⟨w.heap.size + 1, 0, none⟩), .pointer (some ⟨w.heap.size + 1 + 1, 0, none⟩)]] (boxed3 w db i A n c)
      fun e w' => e = .returned (.int .i64 (refuse d (d.has i && decide (n = 4096)))) ∧ w' = boxed3 w db i A n c := by
  have hb : IsD (boxed3 w db i A n c) db y d := ((h.alloc _).alloc _).alloc _
  refine refuses_any hb 142 _ _ (enter43 _) ?_
  have a2 := cell_alloc_new (w.alloc (.cells #[ptr db] 60)) (.int .i64 i) 3
  have a3 := cell_alloc_new ((w.alloc (.cells #[ptr db] 60)).alloc (.cells #[.int .i64 i] 3)) (.slice A n c) 32
  rw [size_alloc'] at a2
  rw [size_alloc', size_alloc'] at a3
  exact fits43 hb _ _ _ i A n c (cell_alloc (cell_alloc (cell_alloc_new w _ _) _) _) (cell_alloc a2 _) a3
theorem write_bad (h : IsD w db y d) (i : Int) (A : Option Addr) (n c : Nat) (hb : refuse d (d.has i && decide (n = 4096)) ≠ 0) :
    Calls Tryz.prog 106 #[ptr db, .int .i64 i, .slice A n c] w fun e w' => e = .returned (.int .i64 (refuse d (d.has i && decide (n = 4096)))) ∧ Below w.heap.size w w' := by
  have H := Lib.hid h
  have H1 := Lib.hid ((((Below.refl _ w).alloc (Nat.le_refl _) (.cells #[ptr db] 60)).alloc (by simp) (.cells #[.int .i64 i] 3)).alloc (by simp; omega) (.cells #[.slice A n c] 32))
  have hr := (H.out.refused43 i A n c)
  generalize refuse d (d.has i && decide (n = 4096)) = r at hb hr ⊢
  have H2 := Lib.hid hr
  have hmk := hmf
  clear h hr
  go_enter Tryz.func106, Tryz.ntmps106
  go_wp2_with (go_at_call 107; refine H2.out.mono ?_; rintro e w1 ⟨rfl, rfl⟩)
  go_ret
  exact ⟨rfl, H1.out⟩
def Lay.grown (y : Lay) (N : Nat) (v : Value) : Lay := { y with ov := v, m := y.m + 1, role := fun k => if k = N then some .order else y.role k }
theorem IsD.push {w2 : World} (h : IsD w db y d) (i : Nat) {v : Value} (ho : OwnI w2 0 v (ints d.order ++ [(i : Int)])) (hg : w.grownBy w2 y.ov.ownBlock) (hat : v.ownBlock = y.ov.ownBlock ∨ v.ownBlock = some w.heap.size) (hlt : ∀ k, v.ownBlock = some k → k < w2.heap.size) :
    ∃ y', IsD (w2.setCell ⟨db, 2, none⟩ v) db y' (d.pushed i) ∧ Kp w y (w2.setCell ⟨db, 2, none⟩ v) y' ∧ y'.m = y.m + 1 ∧ y'.M = y.M := by
  have hnw : ∀ {k r}, y.role k = some r → k < w.heap.size := fun e => h.foot _ (by simp [Lay.foot, e])
  have hnd : ∀ {k r}, y.role k = some r → r ≠ .disk → k ≠ db := fun e hr e2 => hr (by rw [e2, h.rdb] at e; cases e; rfl)
  have hno : ∀ {k r}, y.role k = some r → r ≠ .order → some k ≠ y.ov.ownBlock := fun e hr e2 => hr (by have := h.rob _ e2.symm; rw [this] at e; cases e; rfl)
  have h1 : ∀ {k r}, y.role k = some r → r ≠ .order → w2.heap[k]? = w.heap[k]? := fun e hr => hg.block _ (hnw e) (hno e hr)
  have h2 : ∀ k, k ≠ db → (w2.setCell ⟨db, 2, none⟩ v).heap[k]? = w2.heap[k]? := fun k hk => Below.heap_setCell _ _ _ _ hk
  have h3 : ∀ {k r}, y.role k = some r → r ≠ .order → r ≠ .disk → (w2.setCell ⟨db, 2, none⟩ v).heap[k]? = w.heap[k]? := fun e hr hr' => (h2 _ (hnd e hr')).trans (h1 e hr)
  by_cases hN : v.ownBlock = some w.heap.size
  · have hr : ∀ {k r}, y.role k = some r → (if k = w.heap.size then some Role.order else y.role k) = some r := fun {k r} e => by rw [if_neg (by have := hnw e; omega)]; exact e
    refine ⟨y.grown w.heap.size v, {
      n1 := h.n1
      n2 := h.n2
      row := ((h.row.of_block (h1 h.rdb (by simp))).set 2 v).congr fun j hj => by match j, hj with | 0, _ | 1, _ | 2, _ | 3, _ | 4, _ | 5, _ => rfl
      lasts := h.lasts.of_block (h3 h.rlb (by simp) (by simp))
      waits := (h.waits.of_block (h3 h.rmb (by simp) (by simp))).mono (Nat.le_succ _)
      ord := by
        have : OwnI w2 0 v (ints (d.pushed i).order) := by simpa [ints, Dsk.pushed] using ho
        exact owns_of_block this fun k e => h2 k (by intro e2; change v.ownBlock = some k at e; rw [hN] at e; injection e with e; have := h.foot _ h.fdb; omega)
      lastOk := fun j hj => ?_, waitOk := fun j hj => ?_, apart := h.apart, rdb := hr h.rdb, rlb := hr h.rlb, rmb := hr h.rmb
      rob := fun k e => by change v.ownBlock = some k at e; rw [hN] at e; injection e with e; subst e; simp [Lay.grown]
      foot := fun k hk => ?_, ordLen := by simpa [Dsk.pushed, Lay.grown] using h.ordLen, fuseOk := h.fuseOk, lastLen := h.lastLen, waitLen := h.waitLen }, ⟨?_, fun k hk hf => ?_⟩, rfl, rfl⟩
    · have := (h.lastOk j hj).of_block (w' := w2.setCell ⟨db, 2, none⟩ v) fun k e => h3 e (by simp) (by simp)
      show LastAt _ _ _ (y.L j) _
      rcases hL : y.L j with _ | ⟨b, c⟩
      · rw [hL] at this; exact this
      · rw [hL] at this; exact ⟨hr this.1, this.2⟩
    · have := (h.waitOk j hj).of_block (w' := w2.setCell ⟨db, 2, none⟩ v) fun k e => h3 e (by simp) (by simp)
      show WaitAt _ _ _ (y.M j) (d.wait j)
      rcases hL : y.M j with _ | ⟨b, c⟩ <;> rcases hW : d.wait j with _ | l <;> rw [hL, hW] at this
      · trivial
      · exact this
      · exact this
      · exact ⟨hr this.1, this.2⟩
    · have hs := hg.size
      simp only [World.setCell, Array.size_modify]
      by_cases e : k = w.heap.size
      · subst e; exact hlt _ hN
      · have : y.foot k := by simpa [Lay.foot, Lay.grown, e] using hk
        have := h.foot k this; omega
    · exact (Fr.grown hg (fun k _ e => by simp [Lay.foot, h.rob k e])).trans (Fr.setCell (F := y.foot) _ _ (fun _ => h.fdb) _) fun _ _ h => h
    · have e : k ≠ w.heap.size := by omega
      simpa [Lay.foot, Lay.grown, e] using hf
  · have hv : v.ownBlock = y.ov.ownBlock := hat.resolve_right hN
    refine ⟨{ y with ov := v, m := y.m + 1 }, {
      n1 := h.n1
      n2 := h.n2
      row := ((h.row.of_block (h1 h.rdb (by simp))).set 2 v).congr fun j hj => by match j, hj with | 0, _ | 1, _ | 2, _ | 3, _ | 4, _ | 5, _ => rfl
      lasts := h.lasts.of_block (h3 h.rlb (by simp) (by simp))
      waits := (h.waits.of_block (h3 h.rmb (by simp) (by simp))).mono (Nat.le_succ _)
      ord := by
        have : OwnI w2 0 v (ints (d.pushed i).order) := by simpa [ints, Dsk.pushed] using ho
        exact owns_of_block this fun k e => h2 k (hnd (h.rob k (hv ▸ e)) (by simp))
      lastOk := fun j hj => (h.lastOk j hj).of_block fun k e => h3 e (by simp) (by simp)
      waitOk := fun j hj => (h.waitOk j hj).of_block fun k e => h3 e (by simp) (by simp)
      apart := h.apart, rdb := h.rdb, rlb := h.rlb, rmb := h.rmb
      rob := fun k e => h.rob k (hv ▸ e)
      foot := fun k hk => by have := h.foot k hk; have hs := hg.size; simp only [World.setCell, Array.size_modify]; omega
      ordLen := by simpa [Dsk.pushed] using h.ordLen, fuseOk := h.fuseOk, lastLen := h.lastLen, waitLen := h.waitLen }, ⟨?_, fun k hk hf => hf⟩, rfl, rfl⟩
    exact (Fr.grown hg (fun k _ e => by simp [Lay.foot, h.rob k e])).trans (Fr.setCell (F := y.foot) _ _ (fun _ => h.fdb) _) fun _ _ h => h
theorem IsD.lay (h : IsD w db y d) (i g c : Nat) (l : List UInt8) (hi : i < d.n) (hl : l.length = 4096) (hm : y.m < 1000000000) (ho : Own 5 w 0 (.slice (some ⟨g, 0, none⟩) 4096 c) l) (hf : ¬ y.foot g) :
    ∃ w' y', (Instr.mapUpdate 93 (.map (some y.mb)) (.int .i64 (i : Int)) (.slice (some ⟨g, 0, none⟩) 4096 c)).run Tryz.prog w = .ok () w' ∧ IsD w' db y' (d.laid i l) ∧ Fr (fun k => k = y.mb) w w' ∧ y'.m = y.m + 1 ∧ ∀ k, y'.foot k → y.foot k ∨ k = g := by
  have n2 := h.n2
  obtain ⟨w', hrun, hM, ht⟩ := h.waits.store Tryz.underlying93 (by unfold maxLen; omega) i (by omega) (sl (some (g, c))) (z := .agg [.lit (.int .i64 g), .lit (.int .i64 (4096 : Nat)), .lit (.int .i64 c)]) rfl
  have hg := ht.grown
  have hnm : ∀ {k r}, y.role k = some r → r ≠ .waits → k ≠ y.mb := fun e hr e2 => hr (by rw [e2, h.rmb] at e; cases e; rfl)
  have hng : ∀ {k r}, y.role k = some r → k ≠ g := fun e e2 => hf (by subst e2; simp [Lay.foot, e])
  have hgm : g ≠ y.mb := fun e => hf (e ▸ h.fmb)
  have hlt : g < w.heap.size := by
    have := own_cell ho 0 (by omega)
    exact lt_of_cell this
  have hk : ∀ k, k < w.heap.size → k ≠ y.mb → w'.heap[k]? = w.heap[k]? := fun k h1 h2 => hg.block k h1 (by simpa using h2)
  have hnw : ∀ {k r}, y.role k = some r → k < w.heap.size := fun e => h.foot _ (by simp [Lay.foot, e])
  have h1 : ∀ {k r}, y.role k = some r → r ≠ .waits → w'.heap[k]? = w.heap[k]? := fun e hr => hk _ (hnw e) (hnm e hr)
  have hr : ∀ {k r}, y.role k = some r → (if k = g then some (Role.page i) else y.role k) = some r := fun {k r} e => by rw [if_neg (hng e)]; exact e
  refine ⟨w', { y with M := fun j => if j = i then some (g, c) else y.M j, m := y.m + 1, role := fun k => if k = g then some (.page i) else y.role k }, hrun, {
      n1 := h.n1
      n2 := h.n2
      row := (h.row.of_block (h1 h.rdb (by simp)))
      lasts := h.lasts.of_block (h1 h.rlb (by simp))
      waits := ?_
      ord := owns_of_block h.ord fun k e => h1 (h.rob k e) (by simp)
      lastOk := fun j hj => ?_, waitOk := fun j hj => ?_, apart := fun j b c1 b' c' e e' => ?_, rdb := hr h.rdb, rlb := hr h.rlb, rmb := hr h.rmb
      rob := fun k e => hr (h.rob k e)
      foot := fun k hk => ?_, ordLen := Nat.le_succ_of_le h.ordLen, fuseOk := h.fuseOk, lastLen := h.lastLen, waitLen := fun j l' hj e => ?_ }, Fr.turned ht (fun _ => rfl), rfl, fun k hk => ?_⟩
  · obtain ⟨D, zd, a1, a2, a3⟩ := hM
    refine ⟨D, zd, a1, a2, fun j hj => ?_⟩
    have := a3 j hj
    by_cases e : j = i
    · subst e; simpa using this
    · simpa [e] using this
  · have := (h.lastOk j hj).of_block (w' := w') fun k e => h1 e (by simp)
    show LastAt _ _ _ (y.L j) _
    rcases hL : y.L j with _ | ⟨b, c⟩
    · rw [hL] at this; exact this
    · rw [hL] at this; exact ⟨hr this.1, this.2⟩
  · show WaitAt _ _ _ (if j = i then some (g, c) else y.M j) (if j = i then some l else d.wait j)
    by_cases e : j = i
    · subst e
      rw [if_pos rfl, if_pos rfl]
      exact ⟨by simp, Own.of_block ho fun k e => by cases e; exact hk _ hlt hgm⟩
    · rw [if_neg e, if_neg e]
      have := (h.waitOk j hj).of_block (w' := w') fun k e => h1 e (by simp)
      rcases hL : y.M j with _ | ⟨b, c⟩ <;> rcases hW : d.wait j with _ | l <;> rw [hL, hW] at this
      · trivial
      · exact this
      · exact this
      · exact ⟨hr this.1, this.2⟩
  · change (if j = i then some (g, c) else y.M j) = some (b', c') at e'
    change y.L j = some (b, c1) at e
    by_cases e2 : j = i
    · rw [if_pos e2] at e'
      injection e' with e'
      injection e' with e3 e4
      subst e3
      intro e3
      rcases Nat.lt_or_ge j d.n with hj | hj
      · have := h.lastOk j hj
        rw [e] at this
        exact hng this.1 e3
      · omega
    · rw [if_neg e2] at e'
      exact h.apart j b c1 b' c' e e'
  · have hs := hg.size
    by_cases e : k = g
    · omega
    · have : y.foot k := by simpa [Lay.foot, e] using hk
      have := h.foot k this; omega
  · change (if j = i then some l else d.wait j) = some l' at e
    by_cases e2 : j = i
    · rw [if_pos e2] at e; injection e with e; exact e ▸ hl
    · rw [if_neg e2] at e; exact h.waitLen j l' hj e
  · by_cases e : k = g
    · exact .inr e
    · exact .inl (by simpa [Lay.foot, e] using hk)
variable {w : World} {db : Nat} {y : Lay} {d : Dsk}
def Dsk.went (d : Dsk) : Int := if d.burnt then 9 else 0
theorem Rd.slice {w : World} {B n c : Nat} {A : Option Addr} {l : List UInt8} (h : Rd w B A c l) (hn : l.length = n) (hp : 0 < n) : ∃ b o, A = some ⟨b, o, none⟩ := by
  obtain ⟨b, o, e, _⟩ := h.2.2.2 (by omega)
  exact ⟨b, o, e⟩
theorem Own.page {w : World} {base : Nat} {v : Value} {l : List UInt8} (h : Own 5 w base v l) (hl : l.length = 4096) : ∃ g c, v = .slice (some ⟨g, 0, none⟩) 4096 c ∧ base ≤ g ∧ g < w.heap.size := by
  have hlt := World.ownsRow.lt h
  rcases h.2 with ⟨_, h0⟩ | ⟨g, cap, cur, rfl, hb, hh, _⟩
  · omega
  · exact ⟨g, cap, by rw [hl], hb, (hlt g rfl).2⟩
theorem Own.down {e : TypeId} {w : World} {base : Nat} {v : Value} {l : List UInt8} (h : Own e w base v l) : Own e w 0 v l :=
  ⟨h.1, h.2.imp id fun ⟨g, cap, cur, h1, _, h3⟩ => ⟨g, cap, cur, h1, Nat.zero_le _, h3⟩⟩
theorem IsD.lays {V w4 : World} (h : IsD V db y d) (i : Nat) (l : List UInt8) (hi : i < d.n) (hl : l.length = 4096) (hm : y.m < 1000000000) {v : Value} (ho : Own 5 w4 V.heap.size v l) (hb : Below V.heap.size V w4) :
    ∃ g c w5 y5, v = .slice (some ⟨g, 0, none⟩) 4096 c ∧ (Instr.mapUpdate 93 (.map (some y.mb)) (.int .i64 (i : Int)) (.slice (some ⟨g, 0, none⟩) 4096 c)).run Tryz.prog w4 = .ok () w5 ∧ IsD w5 db y5 (d.laid i l) ∧ Kp V y w5 y5 ∧ y5.m = y.m + 1 ∧
      (∀ a v, a.block ≠ y.mb → V.cell? a = some v → w4.cell? a = some v ∧ w5.cell? a = some v) := by
  obtain ⟨g, c, rfl, hg1, hg2⟩ := Own.page ho hl
  have h4 := h.below hb
  have hf : ¬ y.foot g := fun e => by have := h.foot g e; omega
  obtain ⟨w5, y5, h1, h2, h3, h4', h5⟩ := h4.lay i g c l hi hl hm (Own.down ho) hf
  refine ⟨g, c, w5, y5, rfl, h1, h2, ⟨(Fr.ofBelow hb).trans h3 (fun k _ e => by subst e; exact h.fmb), fun k hk e => (h5 k e).resolve_right (by omega)⟩, h4', fun a v ha hc => ?_⟩
  have hlt := lt_of_cell hc
  have e1 : w4.cell? a = some v := (World.cell?_of_block (w := V) (hb.block _ hlt)).trans hc
  exact ⟨e1, (World.cell?_of_block (w := w4) (h3.block _ (lt_of_cell e1) ha)).trans e1⟩
set_option maxHeartbeats 1000000 in
theorem write_some (h : IsD w db y d) (i : Nat) (A : Option Addr) (c : Nat) (l : List UInt8) (hr : Rd w w.heap.size A c l) (hl : l.length = 4096) (hd : d.dead = false) (hi : i < d.n) (hm : y.m < 1000000000) (hw : (d.wait i).isSome = true) :
    Calls Tryz.prog 106 #[ptr db, .int .i64 i, .slice A 4096 c] w fun e w' => e = .returned (.int .i64 d.went) ∧ ∃ y', IsD w' db y' (d.put i l).burn ∧ Kp w y w' y' ∧ y'.m ≤ y.m + 2 := by
  have hrf := (h.refused43 i A 4096 c)
  have e0 : refuse d (d.has i && decide (4096 = 4096)) = 0 := by simp [refuse, hd, Dsk.has, hi]
  rw [e0] at hrf
  have H2 := Lib.hid hrf
  have hmk := hmf
  have n2 := h.n2
  obtain ⟨W, hW⟩ : ∃ W, W = boxed3 w db i A 4096 c := ⟨_, rfl⟩
  have hD : IsD W db y d := hW ▸ ((h.alloc _).alloc _).alloc _
  have a1 : W.cell? ⟨w.heap.size, 0, none⟩ = some (ptr db) := hW ▸ cell_alloc (cell_alloc (cell_alloc_new w _ _) _) _
  have a2 : W.cell? ⟨w.heap.size + 1, 0, none⟩ = some (.int .i64 i) := by
    have := cell_alloc (cell_alloc_new (w.alloc (.cells #[ptr db] 60)) (.int .i64 i) 3) (.cells #[.slice A 4096 c] 32)
    rw [size_alloc'] at this
    rw [hW]; exact this
  have a3 : W.cell? ⟨w.heap.size + 1 + 1, 0, none⟩ = some (.slice A 4096 c) := by
    have := cell_alloc_new ((w.alloc (.cells #[ptr db] 60)).alloc (.cells #[.int .i64 i] 3)) (.slice A 4096 c) 32
    rw [size_alloc', size_alloc'] at this
    rw [hW]; exact this
  have hB : Below w.heap.size w W := hW ▸ (((Below.refl _ w).alloc (Nat.le_refl _) _).alloc (by simp) _).alloc (by simp; omega) _
  have hRd : Rd W W.heap.size A c l := (hr.below hB).more hB.size
  have b1 := hD.c1
  have hM : ∃ b cb, y.M i = some (b, cb) := by
    have := hD.waitOk i hi
    rcases hM : y.M i with _ | ⟨b, cb⟩
    · rw [hM] at this
      rcases hwt : d.wait i with _ | l
      · rw [hwt] at hw; cases hw
      · rw [hwt] at this; exact this.elim
    · exact ⟨b, cb, rfl⟩
  obtain ⟨b, cb, hM⟩ := hM
  have hlk : ∀ n, (Instr.lookup 93 (.map (some y.mb)) (.int .i64 i) true).run Tryz.prog (W.drewN n) = .ok (.tuple #[sl (some (b, cb)), .bool true]) (W.drewN n) := fun n => by
    have := ((hD.drewN n).waits.look_ok Tryz.underlying93 (zero42 _) i (by omega))
    rw [this, hM]; rfl
  simp only [sl] at hlk
  have hmb := hD.foot _ hD.fmb
  have hne : ∀ k, k < w.heap.size + 3 → w.heap.size ≤ k → k ≠ y.mb := fun k h1 h2 e => by have := h.foot _ h.fmb; omega
  have H := Lib.hid hD
  have HW := Lib.hid hW
  have HB := Lib.hid hB
  have HR := Lib.hid hRd
  have HN := Lib.hid (And.intro (hne _ (by omega) (Nat.le_refl _)) (And.intro (hne (w.heap.size + 1) (by omega) (by omega)) (hne (w.heap.size + 1 + 1) (by omega) (by omega))))
  have HD := Lib.hid hD.ne_mb
  have H3 := Lib.hid h
  have HI := Lib.hid (And.intro hi (And.intro hl (And.intro hm hw)))
  clear h hrf e0 hD hB hRd hr hd n2 hW hne hmb hM hi hl hm hw
  go_enter Tryz.func106, Tryz.ntmps106
  go_wp2_with (go_at_call 107; refine H2.out.mono ?_; rintro e w1 ⟨rfl, rfl⟩)
  rw [← HW.out]; clear HW
  go_quiet (fail)
  go_wp2
  have v1 := (drewN_cell W nq _).trans a1
  have v2 := (drewN_cell W nq _).trans a2
  have v3 := (drewN_cell W nq _).trans a3
  have v4 := (drewN_cell W nq _).trans b1
  have u1 := Lib.hid (H.out.drewN nq)
  have u2 := Lib.hid (below_drewN HB.out nq)
  have u3 := Lib.hid (HR.out.below (below_drewN (Below.refl _ W) nq))
  have u4 := Lib.hid (show W.heap.size = (W.drewN nq).heap.size from rfl)
  clear a1 a2 a3 b1 hlk H HB HR
  generalize W.drewN nq = V at v1 v2 v3 v4 u1 u2 u3 u4 ⊢
  have u5 := Lib.hid (u4.out ▸ u3.out)
  clear u3 u4
  have u6 := Lib.hid u1.out.drew
  have u7 := Lib.hid (show Rd V.drew V.drew.heap.size A c l from u5.out)
  clear u1 u5
  have e1 : V.drew.cell? ⟨w.heap.size, 0, none⟩ = some (ptr db) := v1
  have e2 : V.drew.cell? ⟨w.heap.size + 1, 0, none⟩ = some (.int .i64 i) := v2
  have e3 : V.drew.cell? ⟨w.heap.size + 1 + 1, 0, none⟩ = some (.slice A 4096 c) := v3
  have e4 : V.drew.cell? ⟨db, 1, none⟩ = some (.map (some y.mb)) := v4
  have HE := Lib.hid (And.intro e1 (And.intro e2 (And.intro e3 e4)))
  clear e1 e2 e3 e4
  go_region_held3 (fun w' => w'.cell? ⟨w.heap.size, 0, none⟩ = some (ptr db) ∧ w'.cell? ⟨w.heap.size + 1, 0, none⟩ = some (.int .i64 i) ∧ w'.cell? ⟨w.heap.size + 1 + 1, 0, none⟩ = some (.slice A 4096 c) ∧ w'.cell? ⟨db, 1, none⟩ = some (.map (some y.mb)))
    (first | exact HE.out | exact P4.out | exact P5.out)
    (first | (go_at_call 143; refine (clone_any A c 4096 l _ u7.out HI.out.2.1 (by omega)).mono ?_; rintro e w4 ⟨v, rfl, ho, hb⟩; obtain ⟨g, cg, w5, y5, rfl, hrun, hD5, hK5, hm5, hc5⟩ := IsD.lays u6.out i l HI.out.1 HI.out.2.1 HI.out.2.2.1 ho hb; have p1 := hc5 _ _ HN.out.1 HE.out.1; have p2 := hc5 _ _ HN.out.2.1 HE.out.2.1; have p3 := hc5 _ _ HN.out.2.2 HE.out.2.2.1; have p4 := hc5 ⟨db, 1, none⟩ _ HD.out HE.out.2.2.2; have P4 := Lib.hid (And.intro p1.1 (And.intro p2.1 (And.intro p3.1 p4.1))); have P5 := Lib.hid (And.intro p1.2 (And.intro p2.2 (And.intro p3.2 p4.2))); have q1 := Lib.hid hD5; have q2 := Lib.hid hK5; have q3 := Lib.hid hm5; have p1' := p1.2; clear ho hb hD5 hK5 hm5 hc5 p1 p2 p3 p4))
  have HP := Lib.hid (show d.put i l = d.laid i l by simp [Dsk.put, HI.out.2.2.2])
  have K0 := Lib.hid ((Kp.same (Fr.ofBelow (below_drewN u2.out 1)) : Kp w y V.drew y).trans q2.out)
  have m0 := Lib.hid (show y5.m ≤ y.m + 2 by have := q3.out; omega)
  obtain ⟨bb, hbt⟩ : ∃ bb, d.burnt = bb := ⟨_, rfl⟩
  have hbb := burns_any q1.out
  rw [show (d.laid i l).burnt = bb from hbt] at hbb
  have HBT := Lib.hid hbt
  have Hb := Lib.hid hbb
  clear hbb hbt v1 v2 v3 v4
  rcases bb with _ | _
  · go_wp2_with (go_at_call 109; refine Hb.out.mono ?_; rintro e w6 ⟨rfl, hD6, hK6⟩; have r1 := Lib.hid hD6; have r2 := Lib.hid hK6; clear hD6 hK6)
    go_ret
    exact ⟨by rw [show d.went = _ from congrArg (fun b : Bool => if b then (9 : Int) else 0) HBT.out]; rfl, y5, HP.out ▸ r1.out, K0.out.trans r2.out, m0.out⟩
  · go_wp2_with (go_at_call 109; refine Hb.out.mono ?_; rintro e w6 ⟨rfl, hD6, hK6⟩; have r1 := Lib.hid hD6; have r2 := Lib.hid hK6; clear hD6 hK6)
    go_ret
    exact ⟨by rw [show d.went = _ from congrArg (fun b : Bool => if b then (9 : Int) else 0) HBT.out]; rfl, y5, HP.out ▸ r1.out, K0.out.trans r2.out, m0.out⟩
end Go.Proofs.YtcjokkjepgfinaaGreatDoor.Dk
