import Derived.Test.YtnpebfolmdbipaaGreatDoorF3
import Derived.Laws.CopyRow
import Derived.Deep.OwnRows
import Derived.Sort.CutIn
namespace Go.Proofs.YtnpebfolmdbipaaGreatDoor.Fm
open Go.RowKit Mem
attribute [local go_sem] Oper.semAt_some

/-- s laid into p from o on. -/
def splice (p : List UInt8) (o : Nat) (s : List UInt8) : List UInt8 := p.take o ++ (s ++ p.drop (o + s.length))
theorem length_splice (p : List UInt8) (o : Nat) (s : List UInt8) (h : o + s.length ≤ p.length) : (splice p o s).length = p.length := by
  unfold splice; rw [List.length_append, List.length_append, List.length_take, List.length_drop]; omega
theorem u8_size : (Tryz.prog.info? 5).map (·.size) = some 1 := by kernel_rfl
/-- Copy into a row of bytes. -/
theorem run_copy_rd (W : World) (ty : TypeId) (g o dLen dCap : Nat) (p s : List UInt8) (ad : Addr) (m c B : Nat) (hg : W.heap[g]? = some (.cells (bcs p) 5 (0, 0))) (hr : Rd W B (some ad) c s) (hm : m = s.length) (n : Nat) (hn : n = min s.length dLen) (hfit : o + n ≤ p.length) :
    (Builtin.copy_ #[36, 36] ty #[.slice (some ⟨g, o, none⟩) dLen dCap, .slice (some ad) m c]).run Tryz.prog W = .ok (.int .i64 (n : Int)) (W.setRow g (bcs (splice p o (s.take n)))) := by
  subst hm
  have hls : (s.take n).length = n := by rw [List.length_take]; omega
  have h := run_copy_row (P := Tryz.prog) W 36 36 ty 5 g o dLen dCap ad s.length c (bcs p) 5 ((s.take n).map bv) Tryz.underlying36 u8_size hg (by rw [List.length_map, hls]; exact hn)
    (fun j v hv => by
      have hj : j < n := by
        rcases Nat.lt_or_ge j n with h | h
        · exact h
        · rw [List.getElem?_eq_none (by rw [List.length_map, hls]; exact h)] at hv; cases hv
      obtain ⟨b, o', e, _, hc⟩ := hr.2.2.2 (by omega)
      injection e with e
      subst e
      rw [show (⟨b, o', none⟩ : Addr).add j = ⟨b, o' + j, none⟩ by unfold Addr.add; split <;> simp_all, hc j (by omega)]
      rw [List.getElem?_map, List.getElem?_take_of_lt hj, List.getElem?_eq_getElem (by omega)] at hv
      exact hv)
    (by rw [size_bcs, List.length_map, hls]; exact hfit) (by intro v hv; simp only [List.mem_map] at hv; obtain ⟨x, _, rfl⟩ := hv; rfl)
  rw [h, List.length_map, hls]
  refine congrArg (fun z => Result.ok (Value.int .i64 (n : Int)) (W.setRow g z)) ?_
  apply Array.toList_inj.1
  simp [bcs, splice, hls]
theorem setRow_heap' (W : World) (g : Nat) (cs : Array Value) (cur : Array Value) (t : TypeId) (fr : Nat × Nat) (h : W.heap[g]? = some (.cells cur t fr)) : (W.setRow g cs).heap[g]? = some (.cells cs t fr) := by
  obtain ⟨hlt, hk⟩ := Array.getElem?_eq_some_iff.1 h
  show (W.heap.modify g _)[g]? = _
  rw [Array.getElem?_eq_getElem (by rw [Array.size_modify]; exact hlt), Array.getElem_modify_self, hk]
theorem grown_setRow (W : World) (g : Nat) (cs : Array Value) : W.grownBy (W.setRow g cs) (some g) :=
  ⟨rfl, rfl, rfl, by show W.heap.size ≤ (W.heap.modify g _).size; simp, fun j _ hj => by
    show (W.heap.modify g _)[j]? = _
    rw [Array.getElem?_modify, if_neg (fun e => hj (by rw [e]))]⟩
/-- A row of bytes is read. -/
theorem rd_row {W : World} {g cap : Nat} {cur : Array Value} {fr : Nat × Nat} {l : List UInt8} (h : W.heap[g]? = some (.cells cur 5 fr)) (hl : l.length ≤ cap) (hm : cap ≤ maxLen) (ht : cur.toList.take l.length = l.map bv) (B : Nat) (hB : g < B) : Rd W B (some ⟨g, 0, none⟩) cap l :=
  ⟨hl, hm, fun e => (by cases e), fun _ => ⟨g, 0, rfl, hB, fun i hi => by
    rw [cell_of_row _ _ _ _ _ _ h, Nat.zero_add]
    have h2 : (cur.toList.take l.length)[i]? = some (bv l[i]) := by rw [ht]; simp [hi]
    rw [List.getElem?_take_of_lt hi, Array.getElem?_toList] at h2
    exact h2⟩⟩
/-- What holds cells stays where what holds none turns. -/
theorem heap_own {β : Type} (B : Nat) (f : β → Obj) (hf : ∀ s, (f s).isCells = true) : Go.Own (fun s W => W.heap[B]? = some (f s)) := fun s X Y row hs hg hrow =>
  (hg.block B (Array.getElem?_eq_some_iff.1 hs).1 (fun e' => by
    obtain ⟨o, ho, hc⟩ := hrow B e'.symm
    rw [show X.heap[B]? = _ from hs] at ho; cases ho
    rw [hf] at hc; cases hc)).trans hs

/-- The page as it is laid. -/
def lay1 (m i : List UInt8) (s : List UInt8 × Nat) (k : Fin 8) : List UInt8 × Nat := (splice (splice s.1 (k.1 * 512) m) (k.1 * 512 + 8) (Frm.seg i s.2), s.2 + 1)
def layTo (m i : List UInt8) (pre : List (Fin 8)) : List UInt8 × Nat := pre.foldl (lay1 m i) (zpage, 0)
theorem layTo_snoc (m i : List UInt8) (pre : List (Fin 8)) (k : Fin 8) : layTo m i (pre ++ [k]) = lay1 m i (layTo m i pre) k := by simp [layTo]
theorem layTo_snd (m i : List UInt8) (pre : List (Fin 8)) : (layTo m i pre).2 = pre.length := by
  have h : ∀ s : List UInt8 × Nat, (pre.foldl (lay1 m i) s).2 = s.2 + pre.length := by
    induction pre with
    | nil => intro s; rfl
    | cons k pre ih => intro s; rw [List.foldl_cons, ih, List.length_cons]; show s.2 + 1 + _ = _; omega
  rw [layTo, h]; exact Nat.zero_add _
theorem length_lay1 (m i : List UInt8) (s : List UInt8 × Nat) (k : Fin 8) (hm : m.length = 8) (hs : s.1.length = 4096) : (lay1 m i s k).1.length = 4096 := by
  have hk := k.2
  have hseg : (Frm.seg i s.2).length ≤ 504 := by unfold Frm.seg; rw [List.length_take]; omega
  have h1 : (splice s.1 (k.1 * 512) m).length = 4096 := by rw [length_splice _ _ _ (by omega)]; exact hs
  show (splice _ _ _).length = _
  rw [length_splice _ _ _ (by omega)]; exact h1
theorem length_layTo (m i : List UInt8) (pre : List (Fin 8)) (hm : m.length = 8) : (layTo m i pre).1.length = 4096 := by
  have h : ∀ s : List UInt8 × Nat, s.1.length = 4096 → (pre.foldl (lay1 m i) s).1.length = 4096 := by
    induction pre with
    | nil => intro s hs; exact hs
    | cons k pre ih => intro s hs; exact ih _ (length_lay1 m i s k hm hs)
  exact h _ length_zpage
theorem layTo_upto (m i : List UInt8) (k : Nat) (hk : k ≤ 8) (hm : m.length = 8) (hi : i.length = 4032) : (layTo m i (upto k)).1 = Frm.pageTo m i k ++ List.replicate (4096 - 512 * k) 0 := by
  induction k with
  | zero => exact (List.nil_append zpage).symm
  | succ k ih =>
    rw [upto_succ k (by omega), layTo_snoc]
    have h2 : (layTo m i (upto k)).2 = k := by rw [layTo_snd, length_upto _ (by omega)]
    show splice (splice (layTo m i (upto k)).1 (k * 512) m) (k * 512 + 8) (Frm.seg i (layTo m i (upto k)).2) = _
    rw [h2, ih (by omega), Frm.pageTo]
    have hp := Frm.length_pageTo m i k hm (by omega)
    have hs := Frm.length_seg i k (by omega)
    generalize Frm.pageTo m i k = P at hp
    generalize Frm.seg i k = S at hs
    have e1 : splice (P ++ List.replicate (4096 - 512 * k) 0) (k * 512) m = (P ++ m) ++ List.replicate (4096 - 512 * k - 8) 0 := by
      unfold splice
      rw [List.take_left' (by omega), List.drop_append, List.drop_of_length_le (by omega), List.nil_append, List.drop_replicate, hm, hp, List.append_assoc]
      refine congrArg (fun n => P ++ (m ++ List.replicate n 0)) ?_
      omega
    rw [e1]
    unfold splice
    rw [List.take_left' (by rw [List.length_append]; omega), List.drop_append, List.drop_of_length_le (by rw [List.length_append]; omega), List.nil_append, List.drop_replicate, hs, List.length_append, hp, hm]
    simp only [List.append_assoc]
    refine congrArg (fun n => P ++ (m ++ (S ++ List.replicate n 0))) ?_
    omega
theorem layTo_all (m i : List UInt8) (hm : m.length = 8) (hi : i.length = 4032) : (layTo m i (List.finRange 8)).1 = Frm.pageTo m i 8 := by
  have := layTo_upto m i 8 (Nat.le_refl _) hm hi
  rw [upto_all] at this
  rw [this]; simp
end Go.Proofs.YtnpebfolmdbipaaGreatDoor.Fm
