import Derived.Test.YtcjokkjepgfinaaGreatDoorQH8
set_option linter.unusedVariables false
set_option linter.unusedSimpArgs false
namespace Go.Proofs.YtcjokkjepgfinaaGreatDoor.Tr
set_option maxRecDepth 8000
open Go.RowKit Mem Sk
open Dk (Fr)
abbrev V3 := Value × Value × Value
def t3 (p : V3) : List Value := [p.1, p.2.1, p.2.2]
def t3s (l : List V3) : List Value := (l.map t3).flatten
theorem t3s_app (l m : List V3) : t3s (l ++ m) = t3s l ++ t3s m := by simp [t3s]
theorem t3s_cons (p : V3) (l : List V3) : t3s (p :: l) = p.1 :: p.2.1 :: p.2.2 :: t3s l := by simp [t3s, t3]
theorem t3s_len (l : List V3) : (t3s l).length = l.length * 3 := by
  induction l with
  | nil => rfl
  | cons x l ih => rw [t3s_cons]; simp only [List.length_cons, ih]; omega
theorem t3s_at (l : List V3) (i : Nat) (p : V3) (h : l[i]? = some p) : (t3s l)[i * 3]? = some p.1 ∧ (t3s l)[i * 3 + 1]? = some p.2.1 ∧ (t3s l)[i * 3 + 2]? = some p.2.2 := by
  induction l generalizing i with
  | nil => simp at h
  | cons x l ih =>
    rw [t3s_cons]
    cases i with
    | zero => simp at h; subst h; exact ⟨rfl, rfl, rfl⟩
    | succ i =>
      have h := ih i (by simpa using h)
      rw [show (i + 1) * 3 = i * 3 + 1 + 1 + 1 by omega]
      simpa using h
theorem t3s_get (l : List V3) (j : Nat) (u : Value) (h : (t3s l)[j]? = some u) : ∃ i p, l[i]? = some p ∧ (j = i * 3 ∧ u = p.1 ∨ j = i * 3 + 1 ∧ u = p.2.1 ∨ j = i * 3 + 2 ∧ u = p.2.2) := by
  have hj : j < l.length * 3 := by
    rcases Nat.lt_or_ge j (l.length * 3) with k | k
    · exact k
    · rw [List.getElem?_eq_none (by rw [t3s_len]; exact k)] at h; cases h
  have hi : j / 3 < l.length := by omega
  obtain ⟨a1, a2, a3⟩ := t3s_at l (j / 3) l[j / 3] (List.getElem?_eq_getElem hi)
  refine ⟨j / 3, l[j / 3], List.getElem?_eq_getElem hi, ?_⟩
  rcases (show j % 3 = 0 ∨ j % 3 = 1 ∨ j % 3 = 2 by omega) with e | e | e
  · left; refine ⟨by omega, ?_⟩; rw [show j / 3 * 3 = j by omega, h] at a1; injection a1
  · right; left; refine ⟨by omega, ?_⟩; rw [show j / 3 * 3 + 1 = j by omega, h] at a2; injection a2
  · right; right; refine ⟨by omega, ?_⟩; rw [show j / 3 * 3 + 2 = j by omega, h] at a3; injection a3
def one3 (p : V3) : Prop := p.1.oneCell' = true ∧ p.2.1.oneCell' = true ∧ p.2.2.oneCell' = true
def RowI (w : World) (B : Nat) (A : Option Addr) (c : Nat) (l : List V3) : Prop :=
  l.length ≤ c ∧ c ≤ maxLen ∧ (A = none → c = 0) ∧ (∀ p ∈ l, one3 p) ∧ (0 < l.length → ∃ b o, A = some ⟨b, o, none⟩ ∧ b < B ∧ ∀ i p, l[i]? = some p → w.cell? ⟨b, o + i * 3, none⟩ = some p.1 ∧ w.cell? ⟨b, o + i * 3 + 1, none⟩ = some p.2.1 ∧ w.cell? ⟨b, o + i * 3 + 2, none⟩ = some p.2.2)
theorem RowI.nil (w : World) (B : Nat) : RowI w B none 0 [] := ⟨by simp, by unfold maxLen; omega, fun _ => rfl, fun _ h => by simp at h, fun h => by simp at h⟩
theorem RowI.keep {w w' : World} {B : Nat} {A : Option Addr} {c : Nat} {l : List V3} (h : RowI w B A c l) (hk : ∀ p : Addr, p.block < B → w'.cell? p = w.cell? p) : RowI w' B A c l :=
  ⟨h.1, h.2.1, h.2.2.1, h.2.2.2.1, fun hn => by
    obtain ⟨b, o, e, hb, hc⟩ := h.2.2.2.2 hn
    exact ⟨b, o, e, hb, fun i p hi => ⟨(hk ⟨b, _, none⟩ hb).trans (hc i p hi).1, (hk ⟨b, _, none⟩ hb).trans (hc i p hi).2.1, (hk ⟨b, _, none⟩ hb).trans (hc i p hi).2.2⟩⟩⟩
theorem RowI.below {w w' : World} {B : Nat} {A : Option Addr} {c : Nat} {l : List V3} (h : RowI w B A c l) (hb : Below B w w') : RowI w' B A c l := h.keep fun _ hp => hb.cell hp
theorem RowI.more {w : World} {B B' : Nat} {A : Option Addr} {c : Nat} {l : List V3} (h : RowI w B A c l) (hB : B ≤ B') : RowI w B' A c l :=
  ⟨h.1, h.2.1, h.2.2.1, h.2.2.2.1, fun hn => by
    obtain ⟨b, o, e, hb, hc⟩ := h.2.2.2.2 hn
    exact ⟨b, o, e, by omega, hc⟩⟩
theorem RowI.take {w : World} {B : Nat} {A : Option Addr} {c : Nat} {l : List V3} (h : RowI w B A c l) {i : Nat} (hi : i ≤ l.length) : RowI w B A i (l.take i) := by
  have hl : (l.take i).length = i := by rw [List.length_take]; omega
  refine ⟨by omega, by have := h.1; have := h.2.1; omega, fun e => by have := h.2.2.1 e; have := h.1; omega, fun p hp => h.2.2.2.1 p (List.mem_of_mem_take hp), fun hn => ?_⟩
  obtain ⟨b, o, e, hb, hc⟩ := h.2.2.2.2 (by omega)
  refine ⟨b, o, e, hb, fun j p hj => hc j p ?_⟩
  rw [List.getElem?_take] at hj
  split at hj
  · exact hj
  · cases hj
theorem RowI.drop {w : World} {B b o : Nat} {c : Nat} {l : List V3} (h : RowI w B (some ⟨b, o, none⟩) c l) {i : Nat} (hi : i < l.length) : RowI w B (some ⟨b, o + i * 3, none⟩) (c - i) (l.drop i) := by
  have hl : (l.drop i).length = l.length - i := List.length_drop
  refine ⟨by have := h.1; omega, by have := h.2.1; omega, fun e => (by cases e), fun p hp => h.2.2.2.1 p (List.mem_of_mem_drop hp), fun hn => ?_⟩
  obtain ⟨b', o', e, hb, hc⟩ := h.2.2.2.2 (by omega)
  injection e with e; injection e with e1 e2; subst e1 e2
  refine ⟨_, _, rfl, hb, fun j p hj => ?_⟩
  have := hc (i + j) p (by rw [List.getElem?_drop] at hj; exact hj)
  rw [show o + i * 3 + j * 3 = o + (i + j) * 3 by omega]
  exact this
theorem itemParts : ∃ i, Tryz.prog.info? 80 = some i ∧ i.zero = some (.agg #[.slice none 0 0, .slice none 0 0, .pointer none]) ∧ i.size = 3 ∧ i.bytes = 56 := info_parts item_info
theorem run_append_it (w : World) (ty : TypeId) (base : Nat) (v : Value) (l : List V3) (hown : w.ownsRow base 80 3 v l.length (t3s l))
    (B : Nat) (A : Option Addr) (c : Nat) (k : List V3) (hr : RowI w B A c k) (hlen : l.length + k.length ≤ 1000000000000) (hbase : base ≤ w.heap.size) :
    ∃ v' w', (Builtin.append_ #[73, 73] ty #[v, .slice A k.length c]).run Tryz.prog w = .ok v' w' ∧ w'.ownsRow base 80 3 v' (l ++ k).length (t3s (l ++ k)) ∧ w.grownBy w' v.ownBlock ∧ (v'.ownBlock = v.ownBlock ∨ v'.ownBlock = some w.heap.size) := by
  obtain ⟨i, hi, hz, hs, hby⟩ := itemParts
  rcases A with _ | ad
  · have hc := hr.2.2.1 rfl
    have hk : k = [] := List.eq_nil_of_length_eq_zero (by have := hr.1; omega)
    subst hk
    refine ⟨v, w, ?_, by simpa using hown, World.grownBy.refl w _, .inl rfl⟩
    have hsz : ∀ W, (Go.sizeOf 80).run Tryz.prog W = .ok 3 W := fun W => by simp [Go.sizeOf, typeInfo, hi, hs]
    rcases hown.2 with ⟨rfl, hn⟩ | ⟨g, cap, cur, rfl, _, _, hnc, _⟩
    · simp [Builtin.append_, run_underlying Tryz.underlying73, hsz, Builtin.lenOf, Builtin.firstCells]
    · simp [Builtin.append_, run_underlying Tryz.underlying73, hsz, Builtin.lenOf, Builtin.firstCells, hnc, storeCells]
  · have hadd : ∀ (b o j : Nat), (⟨b, o, none⟩ : Addr).add j = ⟨b, o + j, none⟩ := fun b o j => by unfold Addr.add; split <;> simp_all
    have hcells : ∀ j u, (t3s k)[j]? = some u → w.cell? (ad.add j) = some u := by
      intro j u hu
      obtain ⟨n, p, hp, hj⟩ := t3s_get k j u hu
      have hn : n < k.length := (List.getElem?_eq_some_iff.1 hp).1
      obtain ⟨b, o, e1, _, hc⟩ := hr.2.2.2.2 (by omega)
      injection e1 with e1
      subst e1
      obtain ⟨a1, a2, a3⟩ := hc n p hp
      rw [hadd]
      rcases hj with ⟨rfl, rfl⟩ | ⟨rfl, rfl⟩ | ⟨rfl, rfl⟩
      · exact a1
      · rw [← Nat.add_assoc]; exact a2
      · rw [← Nat.add_assoc]; exact a3
    have hone : ∀ u ∈ t3s k, u.oneCell' = true := by
      intro u hu
      obtain ⟨j, hj⟩ := List.mem_iff_getElem?.1 hu
      obtain ⟨n, p, hp, h⟩ := t3s_get k j u hj
      have h1 := hr.2.2.2.1 p (List.mem_of_getElem? hp)
      rcases h with ⟨_, rfl⟩ | ⟨_, rfl⟩ | ⟨_, rfl⟩
      · exact h1.1
      · exact h1.2.1
      · exact h1.2.2
    obtain ⟨v', w', hrun, h2, h3, _, h5⟩ := run_append_own_at (P := Tryz.prog) w base 73 ty 80 i _ 3 56 Tryz.underlying73 hi hz hs hby rfl (by omega) v l.length (t3s l) hown ad k.length c (t3s k) (t3s_len k) hcells
      hone (by unfold maxLen; omega) (by omega) hbase
    exact ⟨v', w', hrun, by rw [List.length_append, t3s_app]; exact h2, h3, h5⟩
theorem wpList_append_it {ops : Array Oper} {rest : List Oper} {o : Oper} {a : Act} {w : World} {Q : Exit → Act → World → Prop} (hgd : o.guard = none) (s x : Operand)
    (ho : o.op = .call { callee := .builtin .append, args := #[s, x], argTypes := #[73, 73] })
    (base : Nat) (v : Value) (l : List V3) (hs : a.eval s = v) (hown : w.ownsRow base 80 3 v l.length (t3s l))
    (B : Nat) (A : Option Addr) (m c : Nat) (k : List V3) (hx : a.eval x = .slice A m c) (hm : m = k.length) (hr : RowI w B A c k) (hlen : l.length + k.length ≤ 1000000000000) (hbase : base ≤ w.heap.size)
    (h : ∀ v' w', w'.ownsRow base 80 3 v' (l ++ k).length (t3s (l ++ k)) → w.grownBy w' v.ownBlock → (v'.ownBlock = v.ownBlock ∨ v'.ownBlock = some w.heap.size) → wpList Tryz.prog ops Q rest (a.put o.dst v') w') : wpList Tryz.prog ops Q (o :: rest) a w := by
  subst hm
  obtain ⟨v', w', hrun, h2, h3, h4⟩ := run_append_it w o.type base v l hown B A c k hr hlen hbase
  refine wpList_plain hgd fun K hK => ?_
  unfold Oper.wp execOp
  simp only [ho, resolve, invoke, builtin, Sem.run_bind, Sem.run_pure, Result.andThen_ok, List.map_toArray, List.map_cons, List.map_nil, hs, hx, hrun]
  exact hK _ _ (h v' w' h2 h3 h4)
set_option maxHeartbeats 1000000 in
theorem growI_any (n : Nat) (w : World) (hn : n ≤ 1000000000) :
    Calls Tryz.prog 120 #[.slice none 0 0, .int .i64 n] w fun e w' => ∃ v, e = .returned v ∧ w'.ownsRow w.heap.size 80 3 v 0 [] ∧ Below w.heap.size w w' := by
  obtain ⟨i, hi, hz, hs, hby⟩ := itemParts
  by_cases h0 : n = 0
  · subst h0
    go_enter Tryz.func120, Tryz.ntmps120
    go_wp2
    go_ret
    exact ⟨_, rfl, World.ownsRow_nil _ _ _ _, Below.refl _ _⟩
  · have hold : (Builtin.firstCells i.size 0 (.slice none 0 0)).run Tryz.prog w.drew = .ok #[] w.drew := by simp [Builtin.firstCells]
    have hrz : ∃ cs : Array Value, cs.size = grownCap w n 0 80 * 3 ∧ ∀ ty, (Builtin.append_ #[73, 3] ty #[.slice none 0 0, .int .i64 (n : Int)]).run Tryz.prog w = .ok (.slice (some ⟨w.heap.size, 0, none⟩) n (grownCap w n 0 80)) (w.drew.alloc (.cells cs 80)) := by
      have hge : n ≤ grownCap w n 0 80 := grownCap_ge w _ _ _
      refine ⟨_, ?_, fun ty => by
        have h := Lib.run_append_grow_zeros w 73 3 ty 80 i _ .i64 .i64 Tryz.underlying73 Tryz.underlying3 hi hz none 0 0 [] hold n (by omega) (by omega) (by omega) (by omega) (by rw [hby]; omega) (by rw [Nat.zero_add]; exact growslice_fits (by omega) (by rw [hby]; omega))
        simp only [Nat.zero_add, Array.empty_append] at h
        exact h⟩
      simp only [Array.size_append, size_zeroCells]
      show n * 3 + (grownCap w n 0 80 - n) * 3 = _
      omega
    obtain ⟨cs, hcs, hrz⟩ := hrz
    have hGn : n ≤ grownCap w n 0 80 := grownCap_ge w _ _ _
    have hG63 : grownCap w n 0 80 ≤ maxLen := grownCap_le_maxLen w n 0 80 (by unfold maxLen; omega)
    generalize grownCap w n 0 80 = G at hrz hGn hG63 hcs
    have hG64 : G ≤ 9223372036854775807 := by unfold maxLen at hG63; omega
    have hpos : (0 : Int) < (n : Int) := by omega
    have HH := Lib.hid (And.intro hG63 (And.intro hGn hcs))
    clear hold hi hz hs hby hG63 hGn hcs
    go_enter Tryz.func120, Tryz.ntmps120
    go_wp2_with (at_builtin; refine Lib.wpList_append_run _ rfl _ _ _ _ rfl _ _ rfl rfl _ _ (hrz _) ?_)
    go_ret
    exact ⟨_, rfl, ⟨rfl, .inr ⟨_, G, cs, rfl, Nat.le_refl _, heap_alloc_new w.drew _, Nat.zero_le _, HH.out.1, HH.out.2.2, by simp⟩⟩, ((Below.refl _ _).drew).alloc (Nat.le_refl _) _⟩
structure PartI where
  A : Option Addr
  c : Nat
  l : List V3
def flatI (ps : List PartI) : List V3 := (ps.map PartI.l).flatten
theorem flatI_take (ps : List PartI) (k : Nat) (h : k < ps.length) : flatI (ps.take (k + 1)) = flatI (ps.take k) ++ ps[k].l := by
  unfold flatI; rw [List.take_succ_eq_append_getElem h, List.map_append, List.flatten_append]; congr 1; simp
theorem flatI_take_le (ps : List PartI) (k : Nat) : (flatI (ps.take k)).length ≤ (flatI ps).length := by
  have : flatI ps = flatI (ps.take k) ++ flatI (ps.drop k) := by
    unfold flatI; rw [← List.flatten_append, ← List.map_append, List.take_append_drop]
  rw [this, List.length_append]; omega
def ArePartsI (w : World) (B : Nat) (g o : Nat) (ps : List PartI) : Prop :=
  ∀ i (h : i < ps.length), w.cell? ⟨g, o + i, none⟩ = some (.slice ps[i].A ps[i].l.length ps[i].c) ∧ RowI w B ps[i].A ps[i].c ps[i].l
set_option maxHeartbeats 1000000 in
theorem concatI_any (g o c : Nat) (ps : List PartI) (w : World) (hg : g < w.heap.size) (hp : ArePartsI w w.heap.size g o ps) (hn : ps.length ≤ 1000) (hs : (flatI ps).length ≤ 1000000000) :
    Calls Tryz.prog 90 #[.slice (some ⟨g, o, none⟩) ps.length c] w fun e w' => ∃ v, e = .returned v ∧ w'.ownsRow w.heap.size 80 3 v (flatI ps).length (t3s (flatI ps)) ∧ Below w.heap.size w w' := by
  go_enter Tryz.func90, Tryz.ntmps90
  go_wp2_with fail
  go_loop [11, 3] (fun i z => ∃ k : Nat, k ≤ ps.length ∧ i = .int .i64 k ∧ z = .int .i64 ((flatI (ps.take k)).length : Int)) (fun i _ => ps.length - (intOf i).toNat)
  case atStart => exact ⟨0, Nat.zero_le _, rfl, by simp [flatI]⟩
  case round =>
    obtain ⟨k, hk, rfl, rfl⟩ := hrel
    have hle := flatI_take_le ps k
    by_cases hlt : k < ps.length
    · have hcell := (hp k hlt).1
      have hf := Lib.hid (flatI_take ps k hlt)
      have hle2 : (flatI (ps.take k)).length + (ps[k].l).length ≤ 1000000000 := by
        have := flatI_take_le ps (k + 1); rw [hf.out, List.length_append] at this; omega
      go_wp2_with fail
      go_round
      case rel => exact ⟨k + 1, by omega, by go_num, by rw [hf.out, List.length_append]; go_num⟩
      case measure => simp [intOf]; omega
    · obtain rfl : k = ps.length := by omega
      rw [List.take_length] at hle ⊢
      go_wp2_with (go_at_call 120; refine (growI_any _ _ hs).mono ?_; rintro e w1 ⟨v1, rfl, hown, hb⟩; have HB := Lib.hid hb)
      clear hb
      go_loopw [27, 6] (fun i v wr => ∃ k : Nat, k ≤ ps.length ∧ i = .int .i64 k ∧ wr.ownsRow w.heap.size 80 3 v (flatI (ps.take k)).length (t3s (flatI (ps.take k))) ∧ Below w.heap.size w wr) (fun i _ _ => ps.length - (intOf i).toNat)
      case atStart => exact ⟨0, Nat.zero_le _, rfl, by simpa [flatI, t3s] using hown, HB.out⟩
      case round =>
        obtain ⟨k, hk, rfl, hownk, hbk⟩ := hrel
        have hlek := flatI_take_le ps k
        by_cases hlt : k < ps.length
        · obtain ⟨hc0, hr0⟩ := hp k hlt
          have hcell := (hbk.cell (p := ⟨g, o + k, none⟩) hg).trans hc0
          have hf := Lib.hid (flatI_take ps k hlt)
          have hle2 : (flatI (ps.take k)).length + (ps[k].l).length ≤ 1000000000 := by
            have := flatI_take_le ps (k + 1); rw [hf.out, List.length_append] at this; omega
          have hHo := Lib.hid hownk
          have hHb := Lib.hid hbk
          clear hc0 hownk hbk
          go_wp2_with (at_builtin; refine wpList_append_it rfl _ _ rfl w.heap.size _ _ rfl hHo.out w.heap.size _ _ _ _ rfl rfl (hr0.below hHb.out) (by omega) hHb.out.size ?_; intro v2 w2 hown2 hg2 hat2)
          go_roundw
          case rel =>
            exact ⟨k + 1, by omega, by go_num, by rw [hf.out]; exact hown2, own_trans hHb.out hg2 fun q hq => (World.ownsRow.lt hHo.out q hq).1⟩
          case measure => simp [intOf]; omega
        · obtain rfl : k = ps.length := by omega
          rw [List.take_length] at hownk
          go_wp2
          go_ret
          exact ⟨_, rfl, hownk, hbk⟩
end Go.Proofs.YtcjokkjepgfinaaGreatDoor.Tr
