import Derived.Test.YtcjokkjepgfinaaGreatDoorQHO
import Derived.Test.YtcjokkjepgfinaaGreatDoorQH5
import Derived.Test.YtcjokkjepgfinaaGreatDoorQH6
set_option linter.unusedVariables false
set_option linter.unusedSimpArgs false
namespace Go.Proofs.YtcjokkjepgfinaaGreatDoor.Tr
set_option maxRecDepth 8000
open Go.RowKit Mem Sk
open Dk (Fr)
def Al {α : Type} (R : V3 → α → Prop) (ts : List V3) (l : List α) : Prop := ts.length = l.length ∧ ∀ (i : Nat) (p : V3) (x : α), ts[i]? = some p → l[i]? = some x → R p x
section
variable {α : Type} {R Q : V3 → α → Prop} {ts us : List V3} {l m : List α}
theorem Al.nil : Al R [] [] := ⟨rfl, fun i p x h => by simp at h⟩
theorem Al.one {p : V3} {x : α} (h : R p x) : Al R [p] [x] := ⟨rfl, fun i q y h1 h2 => by
  cases i with
  | zero => simp at h1 h2; subst h1 h2; exact h
  | succ i => simp at h1⟩
theorem Al.app (h : Al R ts l) (k : Al R us m) : Al R (ts ++ us) (l ++ m) := by
  refine ⟨by rw [List.length_append, List.length_append, h.1, k.1], fun i p x hp hx => ?_⟩
  rcases Nat.lt_or_ge i ts.length with hi | hi
  · rw [List.getElem?_append_left hi] at hp
    rw [List.getElem?_append_left (by rw [← h.1]; exact hi)] at hx
    exact h.2 i p x hp hx
  · rw [List.getElem?_append_right hi] at hp
    rw [List.getElem?_append_right (by rw [← h.1]; exact hi), ← h.1] at hx
    exact k.2 _ p x hp hx
theorem Al.take (h : Al R ts l) (i : Nat) : Al R (ts.take i) (l.take i) := by
  refine ⟨by rw [List.length_take, List.length_take, h.1], fun j p x hp hx => ?_⟩
  rw [List.getElem?_take] at hp hx
  split at hp
  · rename_i hj; rw [if_pos hj] at hx; exact h.2 j p x hp hx
  · cases hp
theorem Al.drop (h : Al R ts l) (i : Nat) : Al R (ts.drop i) (l.drop i) := by
  refine ⟨by rw [List.length_drop, List.length_drop, h.1], fun j p x hp hx => ?_⟩
  rw [List.getElem?_drop] at hp hx
  exact h.2 _ p x hp hx
theorem Al.repl (h : Al R ts l) (k : Al R us m) (i old : Nat) : Al R (repl ts i old us) (repl l i old m) := (h.take i).app (k.app (h.drop (i + old)))
theorem Al.imp (h : Al R ts l) (k : ∀ p x, R p x → Q p x) : Al Q ts l := ⟨h.1, fun i p x hp hx => k p x (h.2 i p x hp hx)⟩
theorem Al.at (h : Al R ts l) {i : Nat} {p : V3} (hp : ts[i]? = some p) : ∃ x, l[i]? = some x ∧ R p x := by
  have hi : i < l.length := by rw [← h.1]; exact (List.getElem?_eq_some_iff.1 hp).1
  exact ⟨_, List.getElem?_eq_getElem hi, h.2 i p _ hp (List.getElem?_eq_getElem hi)⟩
end
section
variable {w w' : World} {F G : Nat → Prop} {N : Nat} {v : Value}
theorem Slots.vals {n : Nat} {P : Nat → Value → Value → Value → Prop} (h : Slots w F N v n P) (h1 : ∀ i kv rv mv, P i kv rv mv → one3 (kv, rv, mv)) :
    ∃ A c ts, v = .slice A n c ∧ ts.length = n ∧ RowI w w.heap.size A c ts ∧ ∀ (i : Nat) (p : V3), ts[i]? = some p → P i p.1 p.2.1 p.2.2 := by
  obtain ⟨A, c, e, g1, g2, g3, g4⟩ := h
  rcases Nat.eq_zero_or_pos n with rfl | hn
  · exact ⟨A, c, [], e, rfl, ⟨by simp, g2, g3, fun _ hp => by simp at hp, fun k => by simp at k⟩, fun i p hp => by simp at hp⟩
  · obtain ⟨b, o, rfl, hb, hf, hN, hz, hc⟩ := g4 hn
    have key : ∀ i : Fin n, ∃ p : V3, (w.cell? ⟨b, o + i.val * 3, none⟩ = some p.1 ∧ w.cell? ⟨b, o + i.val * 3 + 1, none⟩ = some p.2.1 ∧ w.cell? ⟨b, o + i.val * 3 + 2, none⟩ = some p.2.2) ∧ P i.val p.1 p.2.1 p.2.2 := fun i => by
      obtain ⟨kv, rv, mv, a1, a2, a3, hp⟩ := hc i.val i.isLt
      exact ⟨(kv, rv, mv), ⟨a1, a2, a3⟩, hp⟩
    have hget : ∀ (i : Nat) (p : V3), (List.ofFn fun i : Fin n => Classical.choose (key i))[i]? = some p → ∃ h : i < n, p = Classical.choose (key ⟨i, h⟩) := by
      intro i p hp
      have hi : i < n := by have := (List.getElem?_eq_some_iff.1 hp).1; simpa using this
      refine ⟨hi, ?_⟩
      rw [List.getElem?_eq_getElem (by simpa using hi)] at hp
      injection hp with hp
      rw [← hp, List.getElem_ofFn]
    refine ⟨_, c, List.ofFn fun i : Fin n => Classical.choose (key i), e, by simp, ⟨by simpa using g1, g2, g3, fun p hp => ?_, fun _ => ⟨b, o, rfl, hb, fun i p hp => ?_⟩⟩, fun i p hp => ?_⟩
    · obtain ⟨i, hi⟩ := List.mem_iff_getElem?.1 hp
      obtain ⟨hlt, rfl⟩ := hget i p hi
      exact h1 _ _ _ _ (Classical.choose_spec (key ⟨i, hlt⟩)).2
    · obtain ⟨hlt, rfl⟩ := hget i p hp
      exact (Classical.choose_spec (key ⟨i, hlt⟩)).1
    · obtain ⟨hlt, rfl⟩ := hget i p hp
      exact (Classical.choose_spec (key ⟨i, hlt⟩)).2
theorem Slots.own {base : Nat} {ts : List V3} {P : Nat → Value → Value → Value → Prop} (ho : w.ownsRow base 80 3 v ts.length (t3s ts)) (hP : ∀ (i : Nat) (p : V3), ts[i]? = some p → P i p.1 p.2.1 p.2.2) (hF : ∀ k, F k → k < base) (hN : N ≤ base) : Slots w F N v ts.length P := by
  have hlt := World.ownsRow.lt ho
  have hcells := fun g hg => World.ownsRow.cells (g := g) ho hg
  rcases ho.2 with ⟨rfl, h0⟩ | ⟨g, cap, cur, rfl, hb, hh, hnc, hcm, _, _⟩
  · refine ⟨none, 0, by rw [h0], by omega, by unfold maxLen; omega, fun _ => rfl, fun hn => absurd hn (by omega)⟩
  · refine ⟨_, cap, rfl, hnc, hcm, fun e => (by cases e), fun _ => ⟨g, 0, rfl, (hlt g rfl).2, fun hf => by have := hF g hf; omega, by omega, fun j => by simp [World.frozen?, hh], fun i hi => ?_⟩⟩
    obtain ⟨p, hpi⟩ : ∃ p, ts[i]? = some p := ⟨_, List.getElem?_eq_getElem hi⟩
    obtain ⟨a1, a2, a3⟩ := t3s_at ts i p hpi
    have hadd : ∀ j, (⟨g, 0, none⟩ : Addr).add j = ⟨g, j, none⟩ := fun j => by unfold Addr.add; split <;> simp_all
    have b1 := hcells g rfl _ _ a1
    have b2 := hcells g rfl _ _ a2
    have b3 := hcells g rfl _ _ a3
    rw [hadd] at b1 b2 b3
    exact ⟨p.1, p.2.1, p.2.2, by rw [Nat.zero_add]; exact b1, by rw [Nat.zero_add]; exact b2, by rw [Nat.zero_add]; exact b3, hP i p hpi⟩
def EntR (s : Bool) (w : World) (F : Nat → Prop) (N k : Nat) (p : V3) (x : By × Kid k) : Prop := RdF w F p.1 x.1 ∧ Ent s w F N k x.2 p.2.1 p.2.2
theorem RdF.one {l : By} (h : RdF w F v l) : v.oneCell' = true := by
  obtain ⟨A, c, rfl, _⟩ := h; rfl
theorem Ent.one {s : Bool} {k : Nat} {x : Kid k} {rv mv : Value} (h : Ent s w F N k x rv mv) : rv.oneCell' = true ∧ mv.oneCell' = true := by
  cases k with
  | zero => exact ⟨h.1.one, by rw [h.2]; rfl⟩
  | succ k =>
    rcases h with ⟨_, h2, h3⟩ | ⟨_, ⟨A, n, c, h2⟩, _, b, iv, h4, _⟩
    · exact ⟨h2.one, by rw [h3]; rfl⟩
    · exact ⟨by rw [h2]; rfl, by rw [h4]; rfl⟩
theorem EntR.kf {s : Bool} {k : Nat} {p : V3} {x : By × Kid k} (h : EntR s w F N k p x) (q : Kf F w w' G) : EntR s w' G N k p x := ⟨h.1.kf q, h.2.kf q⟩
theorem ItsAt.vals {s : Bool} {k : Nat} {l : Its k} (h : ItsAt s w F N k v l) : ∃ A c ts, v = .slice A ts.length c ∧ RowI w w.heap.size A c ts ∧ Al (EntR s w F N k) ts l := by
  obtain ⟨A, c, ts, e, hl, hr, hp⟩ := Slots.vals h fun i kv rv mv ⟨x, _, h1, h2⟩ => ⟨h1.one, h2.one⟩
  refine ⟨A, c, ts, by rw [hl]; exact e, hr, hl, fun i p x hi hx => ?_⟩
  obtain ⟨y, hy, h1, h2⟩ := hp i p hi
  rw [hx] at hy; injection hy with hy; subst hy
  exact ⟨h1, h2⟩
theorem ItsAt.own {s : Bool} {k base : Nat} {l : Its k} {ts : List V3} (ho : w.ownsRow base 80 3 v ts.length (t3s ts)) (ha : Al (EntR s w F N k) ts l) (hF : ∀ k, F k → k < base) (hN : N ≤ base) : ItsAt s w F N k v l := by
  unfold ItsAt
  rw [← ha.1]
  refine Slots.own ho (fun i p hp => ?_) hF hN
  obtain ⟨x, hx, h1, h2⟩ := ha.at hp
  exact ⟨x, hx, h1, h2⟩
theorem Al.kf {s : Bool} {k : Nat} {l : Its k} {ts : List V3} (h : Al (EntR s w F N k) ts l) (q : Kf F w w' G) : Al (EntR s w' G N k) ts l := h.imp fun _ _ h => h.kf q
end
theorem RowI.from {w : World} {B : Nat} {A : Option Addr} {c : Nat} {l : List V3} (h : RowI w B A c l) {n : Nat} (hn : n ≤ l.length) : RowI w B (cutA A n c 3) (c - n) (l.drop n) := by
  have h1 := h.1
  rcases A with _ | a
  · have hc := h.2.2.1 rfl
    have hl : l = [] := List.eq_nil_of_length_eq_zero (by omega)
    subst hl
    have e : cutA none n c 3 = none := by unfold cutA; split <;> rfl
    rw [e, show c - n = 0 by omega, List.drop_nil]
    exact RowI.nil w B
  · rcases Nat.lt_or_ge n l.length with hlt | hge
    · obtain ⟨b, o, e, _, _⟩ := h.2.2.2.2 (by omega)
      injection e with e
      subst e
      have e2 : cutA (some ⟨b, o, none⟩) n c 3 = some ⟨b, o + n * 3, none⟩ := by
        unfold cutA
        rw [if_neg (by omega)]
        show some _ = _
        unfold Addr.add; split <;> simp_all
      rw [e2]
      exact h.drop hlt
    · have e : l.drop n = [] := List.drop_eq_nil_of_le hge
      rw [e]
      refine ⟨by simp, by have := h.2.1; omega, fun k => ?_, fun p hp => by simp at hp, fun k => by simp at k⟩
      unfold cutA at k
      split at k <;> simp at k
theorem ownsRow_low {w : World} {b b' e size n : Nat} {v : Value} {xs : List Value} (h : w.ownsRow b e size v n xs) (hb : b' ≤ b) : w.ownsRow b' e size v n xs := by
  refine ⟨h.1, ?_⟩
  rcases h.2 with h2 | ⟨g, cap, cur, hv, hg, hh, r⟩
  · exact .inl h2
  · exact .inr ⟨g, cap, cur, hv, Nat.le_trans hb hg, hh, r⟩
theorem are3 {V : World} {t : TypeId} {A1 A2 A3 : Option Addr} {c1 c2 c3 : Nat} {l1 l2 l3 : List V3} (h1 : RowI V V.heap.size A1 c1 l1) (h2 : RowI V V.heap.size A2 c2 l2) (h3 : RowI V V.heap.size A3 c3 l3) :
    ArePartsI (V.alloc (.cells #[.slice A1 l1.length c1, .slice A2 l2.length c2, .slice A3 l3.length c3] t)) (V.alloc (.cells #[.slice A1 l1.length c1, .slice A2 l2.length c2, .slice A3 l3.length c3] t)).heap.size V.heap.size 0 [⟨A1, c1, l1⟩, ⟨A2, c2, l2⟩, ⟨A3, c3, l3⟩] := by
  have hb := (Below.refl V.heap.size V).alloc (Nat.le_refl _) (.cells #[.slice A1 l1.length c1, .slice A2 l2.length c2, .slice A3 l3.length c3] t)
  intro i hi
  have hi3 : i = 0 ∨ i = 1 ∨ i = 2 := by simp at hi; omega
  rcases hi3 with rfl | rfl | rfl
  · exact ⟨by simp, (h1.below hb).more hb.size⟩
  · exact ⟨by simp, (h2.below hb).more hb.size⟩
  · exact ⟨by simp, (h3.below hb).more hb.size⟩
theorem flat3 (A1 A2 A3 : Option Addr) (c1 c2 c3 : Nat) (a b c : List V3) : flatI [⟨A1, c1, a⟩, ⟨A2, c2, b⟩, ⟨A3, c3, c⟩] = a ++ (b ++ c) := by simp [flatI]
set_option maxHeartbeats 2000000 in
theorem replaced_row {w : World} {A1 A2 : Option Addr} {c1 c2 : Nat} {ts us : List V3} (h1 : RowI w w.heap.size A1 c1 ts) (h2 : RowI w w.heap.size A2 c2 us) {i old : Nat} (hi : i + old ≤ ts.length) (hs : ts.length + us.length ≤ 100000000) :
    Calls Tryz.prog 64 #[.slice A1 ts.length c1, .int .i64 (i : Int), .int .i64 (old : Int), .slice A2 us.length c2] w fun e w' => ∃ v, e = .returned v ∧ w'.ownsRow w.heap.size 80 3 v (repl ts i old us).length (t3s (repl ts i old us)) ∧ Below w.heap.size w w' := by
  have hc1 := h1.1
  have hm1 := h1.2.1
  have hr1 := fun W => run_toI A1 i ts.length c1 W (by omega)
  have hr2 := fun W => run_fromI A1 (i + old) ts.length c1 W hi
  rw [show (((i + old : Nat)) : Int) = (i : Int) + old by omega] at hr2
  have H1 := Lib.hid h1; have H2 := Lib.hid h2; have HI := Lib.hid hi; have HS := Lib.hid hs
  have hw1 : IntKind.i64.wrap ((i : Int) + old) = (i : Int) + old := IntWalk.i64_in _ (by unfold maxLen at hm1; omega)
  have E1 := Lib.hid (show (ts.take i).length = i by rw [List.length_take]; omega)
  have E2 := Lib.hid (show (ts.drop (i + old)).length = ts.length - (i + old) from List.length_drop)
  clear h1 h2 hi hs hc1 hm1
  go_enter Tryz.func64, Tryz.ntmps64
  go_wp2_with fail
  go_still_tail 10, (by kernel_rfl)
  change wpList _ _ _ _ _ w.drew
  have B0 := Lib.hid ((Below.refl w.heap.size w).drew)
  have R1 := Lib.hid (show RowI w.drew w.drew.heap.size A1 c1 ts from H1.out.keep fun _ _ => rfl)
  have R2 := Lib.hid (show RowI w.drew w.drew.heap.size A2 c2 us from H2.out.keep fun _ _ => rfl)
  have Z0 := Lib.hid (show w.drew.heap.size = w.heap.size from rfl)
  generalize w.drew = V at *
  have hp := are3 (t := 73) (R1.out.take (i := i) (by have := HI.out; omega)) R2.out (R1.out.from HI.out)
  rw [E1.out, E2.out] at hp
  have HP := Lib.hid hp; clear hp hr1 hr2 hw1
  go_wp2_with fail
  have hlen : (flatI [⟨A1, i, ts.take i⟩, ⟨A2, c2, us⟩, ⟨cutA A1 (i + old) c1 3, c1 - (i + old), ts.drop (i + old)⟩]).length ≤ 1000000000 := by
    rw [flat3, List.length_append, List.length_append, E1.out, E2.out]; have := HI.out; have := HS.out; omega
  refine (concatI_any V.heap.size 0 3 [⟨A1, i, ts.take i⟩, ⟨A2, c2, us⟩, ⟨cutA A1 (i + old) c1 3, c1 - (i + old), ts.drop (i + old)⟩] _ (by simp) HP.out (by simp) hlen).mono ?_
  rintro e w1 ⟨v, rfl, ho, hb⟩
  rw [flat3] at ho
  have HO := Lib.hid (ownsRow_low ho (show w.heap.size ≤ _ by rw [World.size_alloc]; have := Z0.out; omega))
  have HB := Lib.hid ((B0.out.alloc B0.out.size _).trans (hb.mono (by rw [World.size_alloc]; have := Z0.out; omega)))
  clear ho hb hlen
  go_wp2_with fail
  go_ret
  exact ⟨_, rfl, HO.out, HB.out⟩
theorem Own3.one (w : World) (p : V3) : (w.alloc (.cells #[p.1, p.2.1, p.2.2] 80)).ownsRow w.heap.size 80 3 (.slice (some ⟨w.heap.size, 0, none⟩) 1 1) 1 (t3s [p]) := by
  have := World.ownsRow_lit (size := 3) (e := 80) w #[p.1, p.2.1, p.2.2] 1 (Nat.le_refl _) (by unfold maxLen; omega) (by simp)
  simpa [t3s, t3] using this
theorem Own3.two (w : World) (p q : V3) : (w.alloc (.cells #[p.1, p.2.1, p.2.2, q.1, q.2.1, q.2.2] 80)).ownsRow w.heap.size 80 3 (.slice (some ⟨w.heap.size, 0, none⟩) 2 2) 2 (t3s [p, q]) := by
  have := World.ownsRow_lit (size := 3) (e := 80) w #[p.1, p.2.1, p.2.2, q.1, q.2.1, q.2.2] 2 (Nat.le_refl _) (by unfold maxLen; omega) (by simp)
  simpa [t3s, t3] using this
theorem Slots.take {w : World} {F : Nat → Prop} {N n c i : Nat} {A : Option Addr} {P : Nat → Value → Value → Value → Prop} (h : Slots w F N (.slice A n c) n P) (hi : i ≤ n) : Slots w F N (.slice A i i) i P := by
  obtain ⟨A', c', e, h1, h2, h3, h4⟩ := h
  injection e with e1 e2 e3
  subst e1 e3
  refine ⟨A, i, rfl, Nat.le_refl _, by omega, fun e => by have := h3 e; omega, fun hn => ?_⟩
  obtain ⟨b, o, e, hb, hf, hN, hz, hc⟩ := h4 (by omega)
  exact ⟨b, o, e, hb, hf, hN, hz, fun j hj => hc j (by omega)⟩
theorem Slots.from {w : World} {F : Nat → Prop} {N n c i : Nat} {A : Option Addr} {P : Nat → Value → Value → Value → Prop} (h : Slots w F N (.slice A n c) n P) (hi : i ≤ n) : Slots w F N (.slice (cutA A i c 3) (n - i) (c - i)) (n - i) (fun j => P (i + j)) := by
  obtain ⟨A', c', e, h1, h2, h3, h4⟩ := h
  injection e with e1 e2 e3
  subst e1 e3
  refine ⟨_, c - i, rfl, by omega, by omega, fun e => ?_, fun hn => ?_⟩
  · rcases A with _ | a
    · have := h3 rfl; omega
    · unfold cutA at e; split at e <;> simp at e
  · obtain ⟨b, o, e, hb, hf, hN, hz, hc⟩ := h4 (by omega)
    subst e
    have e2 : cutA (some ⟨b, o, none⟩) i c 3 = some ⟨b, o + i * 3, none⟩ := by
      unfold cutA
      rw [if_neg (by omega)]
      show some _ = _
      unfold Addr.add; split <;> simp_all
    refine ⟨b, o + i * 3, e2, hb, hf, hN, hz, fun j hj => ?_⟩
    have := hc (i + j) (by omega)
    rw [show o + i * 3 + j * 3 = o + (i + j) * 3 by omega]
    exact this
theorem ItsAt.take {w : World} {F : Nat → Prop} {N n c i k : Nat} {s : Bool} {A : Option Addr} {l : Its k} (h : ItsAt s w F N k (.slice A n c) l) (hi : i ≤ l.length) : ItsAt s w F N k (.slice A i i) (l.take i) := by
  have hn : n = l.length := by obtain ⟨_, _, e, _⟩ := h; injection e
  subst hn
  have hl : (l.take i).length = i := by rw [List.length_take]; omega
  unfold ItsAt
  rw [hl]
  refine (Slots.take h hi).imp ?_
  rintro j kv rv mv hj ⟨x, hx, r⟩
  exact ⟨x, by rw [List.getElem?_take, if_pos hj]; exact hx, r⟩
theorem ItsAt.from {w : World} {F : Nat → Prop} {N n c i k : Nat} {s : Bool} {A : Option Addr} {l : Its k} (h : ItsAt s w F N k (.slice A n c) l) (hi : i ≤ l.length) : ItsAt s w F N k (.slice (cutA A i c 3) (n - i) (c - i)) (l.drop i) := by
  have hn : n = l.length := by obtain ⟨_, _, e, _⟩ := h; injection e
  subst hn
  unfold ItsAt
  rw [List.length_drop]
  refine (Slots.from h hi).imp ?_
  rintro j kv rv mv hj ⟨x, hx, r⟩
  exact ⟨x, by rw [List.getElem?_drop]; exact hx, r⟩
section
variable {w w' : World} {F G : Nat → Prop} {N : Nat} {v kv : Value}
theorem bcellT {W w1 : World} (hb : Below W.heap.size W w1) (b o : Nat) (h : b < W.heap.size) : w1.cell? ⟨b, o, none⟩ = W.cell? ⟨b, o, none⟩ := hb.cell (p := ⟨b, o, none⟩) h
theorem RdF.form {l : By} (h : RdF w F v l) : ∃ A c, v = .slice A l.length c := by
  obtain ⟨A, c, e, _⟩ := h; exact ⟨A, c, e⟩
theorem ItsAt.form {s : Bool} {k : Nat} {l : Its k} (h : ItsAt s w F N k v l) : ∃ A c, v = .slice A l.length c ∧ l.length ≤ c ∧ c ≤ maxLen := by
  obtain ⟨A, c, e, h1, h2, _⟩ := h; exact ⟨A, c, e, h1, h2⟩
theorem Ent.made {k b : Nat} {l : Its k} {rv iv : Value} (hr : RdF w F rv [0, 0]) (hv : VN w b [.int .i64 0, .int .i64 (k : Int), .slice none 0 0, .slice none 0 0, iv]) (hb : ¬ F b) (hN : N ≤ b) (hi : ItsAt true w F N k iv l) : Ent true w F N (k + 1) (mkT none l) rv (.pointer (some ⟨b, 0, none⟩)) := by
  obtain ⟨A, c, e⟩ := hr.form
  exact .inr ⟨rfl, ⟨A, _, c, e⟩, fun _ => hr, b, iv, rfl, ⟨hv.lt, hb, hN, hv.c 0 _ rfl, hv.c 1 _ rfl, hv.c 2 _ rfl, hv.c 3 _ rfl, hv.c 4 _ rfl, hv.top 5 (Nat.le_refl _)⟩, hi⟩
set_option maxHeartbeats 2000000 in
theorem place_any {k : Nat} {l : Its k} {key : By} (h : ItsAt true w F N k v l) (hk : RdF w F kv key) (hk6 : k < 256) (hF : ∀ b, F b → b < w.heap.size) (hN : N ≤ w.heap.size) :
    Calls Tryz.prog 122 #[.int .i64 (k : Int), v, kv] w fun e w' => ∃ rv mv, e = .returned (.agg #[kv, rv, mv]) ∧ EntR true w' F N (k + 1) (kv, rv, mv) (key, mkT none l) ∧ Below w.heap.size w w' := by
  obtain ⟨A, c, rfl, hc1, hc2⟩ := h.form
  obtain ⟨B, d, rfl⟩ := hk.form
  have H := Lib.hid h; have HK := Lib.hid hk; have HF := Lib.hid hF
  have hmk : ∀ W, (Instr.makeSlice 32 (.int .i64 2) (.int .i64 2)).run Tryz.prog W = .ok (.slice (some ⟨W.heap.size, 0, none⟩) 2 2) (W.alloc (.cells (bcs [0, 0]) 5)) := fun W => by
    have hr := run_make_row' (P := Tryz.prog) 32 5 (.int .u8 0) 1 Tryz.underlying32 u8_info rfl .i64 .i64 2 (by omega) (by omega) W
    rw [bcs_zeros] at hr
    exact hr
  clear h hk hF
  go_enter Tryz.func122, Tryz.ntmps122
  go_wp2_with fail
  obtain ⟨W1, hW1⟩ : ∃ X, X = w.alloc (.cells #[.slice B key.length d, .slice (some ⟨w.heap.size + 1, 0, none⟩) 2 2, .pointer (some ⟨w.heap.size + 1 + 1, 0, none⟩)] 80) := ⟨_, rfl⟩
  have Z1 : VN W1 w.heap.size [.slice B key.length d, .slice (some ⟨w.heap.size + 1, 0, none⟩) 2 2, .pointer (some ⟨w.heap.size + 1 + 1, 0, none⟩)] := hW1 ▸ VN.new w _ _
  have s1 : W1.heap.size = w.heap.size + 1 := by rw [hW1]; exact World.size_alloc _ _
  have b1 : Below w.heap.size w W1 := hW1 ▸ box1 w _
  rw [← hW1]
  obtain ⟨W2, hW2⟩ : ∃ X, X = W1.alloc (.cells (bcs [0, 0]) 5) := ⟨_, rfl⟩
  have O2 : Mem.Own 5 W2 W1.heap.size (.slice (some ⟨W1.heap.size, 0, none⟩) 2 2) [0, 0] := hW2 ▸ Mem.Own.lit 5 W1 [0, 0] _ (Nat.le_refl _) (by simp [maxLen])
  have s2 : W2.heap.size = w.heap.size + 1 + 1 := by rw [hW2, World.size_alloc, s1]
  have b2 : Below W1.heap.size W1 W2 := hW2 ▸ box1 W1 _
  rw [← hW2]
  obtain ⟨W3, hW3⟩ : ∃ X, X = W2.alloc (.cells #[.int .i64 0, .int .i64 (k : Int), .slice none 0 0, .slice none 0 0, .slice A l.length c] 75) := ⟨_, rfl⟩
  have Z3 : VN W3 W2.heap.size [.int .i64 0, .int .i64 (k : Int), .slice none 0 0, .slice none 0 0, .slice A l.length c] := hW3 ▸ VN.new W2 _ _
  have b3 : Below W2.heap.size W2 W3 := hW3 ▸ box1 W2 _
  rw [← hW3]
  have b12 : Below w.heap.size w W2 := b1.trans (b2.mono b1.size)
  have b13 : Below w.heap.size w W3 := b12.trans (b3.mono b12.size)
  have ZR : VN W3 w.heap.size [.slice B key.length d, .slice (some ⟨w.heap.size + 1, 0, none⟩) 2 2, .pointer (some ⟨w.heap.size + 1 + 1, 0, none⟩)] := (Z1.bel b2).bel b3
  have hR : RdF W3 F (.slice (some ⟨w.heap.size + 1, 0, none⟩) 2 2) [0, 0] := by
    have := RdF.own (F := F) O2 (fun b hb => by have := HF.out b hb; omega)
    rw [s1] at this
    exact this.bel b3
  rw [s2] at Z3
  refine bodyPost_ret (results_c rfl w.heap.size [.slice B key.length d, .slice (some ⟨w.heap.size + 1, 0, none⟩) 2 2, .pointer (some ⟨w.heap.size + 1 + 1, 0, none⟩)] _ rfl ZR.range Tryz.underlying80 rfl info_item) rfl ?_
  exact ⟨_, _, rfl, ⟨HK.out.bel b13, Ent.made hR Z3 (fun hb => by have := HF.out _ hb; omega) (by omega) (H.out.kf (kfb b13))⟩, b13⟩
set_option maxHeartbeats 2000000 in
theorem middle_any {l : List It} (h : KR w F N v l) (hs : isum l ≤ 1000000000) (h0 : l ≠ []) :
    Calls Tryz.prog 123 #[v] w fun e w' => e = .returned (.int .i64 (mid l : Nat)) ∧ Below w.heap.size w w' := by
  obtain ⟨A, c, rfl, hc1, hc2⟩ := h.form
  have hlen : l.length ≤ 1000000000 := by have := len_le_isum l; omega
  have HS := Lib.hid (size_any h hs)
  have HK := Lib.hid h
  have hpos : 0 < l.length := List.length_pos_iff.2 h0
  clear h h0
  go_enter Tryz.func123, Tryz.ntmps123
  go_wp2_with fail
  refine HS.out.mono ?_
  rintro e w1 ⟨rfl, hb1⟩
  have B1 := Lib.hid hb1
  clear hb1
  go_wp2_with fail
  go_loopw [3, 4] (fun i s wr => ∃ k : Nat, k < l.length ∧ i = .int .i64 k ∧ s = .int .i64 (isum (l.take k) : Nat) ∧ Hid (mid l = k + midFrom (isum l) (l.drop k) (isum (l.take k))) ∧ Hid (Below w.heap.size w wr)) (fun i _ _ => l.length - (intOf i).toNat)
  case atStart => exact ⟨0, hpos, rfl, by simp [isum], Lib.hid (by simp [mid, isum]), B1⟩
  case round =>
    obtain ⟨k, hk, rfl, rfl, HM, HB⟩ := hrel
    obtain ⟨b, o, A1, c1, A2, c2, q, rfl, g1, g2, g3, r1, r2, _, _⟩ := (HK.out.kf (kfb HB.out)).at hk
    have hbw : b < wr.heap.size := World.block_lt_of_cell? _ _ g1
    have h3i : (k : Int) < (l.length : Int) := by omega
    have hsz : isum (l.take (k + 1)) = isum (l.take k) + isz l[k] := isum_take_succ l k hk
    have hle : isum (l.take (k + 1)) ≤ isum l := isum_take_le l (k + 1)
    have hz : isz l[k] = 4 + l[k].1.length + l[k].2.length := rfl
    have C := Lib.hid (fun W => isize_any A1 A2 l[k].1.length l[k].2.length c1 c2 q (by omega) (by omega) W)
    have HD := Lib.hid (List.drop_eq_getElem_cons hk)
    have HM3 := Lib.hid (show midFrom (isum l) (l.drop k) (isum (l.take k)) = if isum (l.take k) + isz l[k] < isum l - isum (l.take k) then 1 + midFrom (isum l) (l.drop (k + 1)) (isum (l.take k) + isz l[k]) else 0 by rw [HD.out, midFrom])
    by_cases hlt : isum (l.take k) + isz l[k] < isum l - isum (l.take k)
    · have hk1 : k + 1 < l.length := by
        rcases Nat.lt_or_ge (k + 1) l.length with j | j
        · exact j
        · have e : l.take (k + 1) = l := List.take_of_length_le j
          rw [e] at hsz; omega
      have HM2 := Lib.hid (show mid l = (k + 1) + midFrom (isum l) (l.drop (k + 1)) (isum (l.take (k + 1))) by rw [HM.out, HM3.out, if_pos hlt, hsz]; omega)
      have HSZ := Lib.hid (show ((isum (l.take k) : Nat) : Int) + (4 + (l[k].1.length : Int) + (l[k].2.length : Int)) = (isum (l.take (k + 1)) : Nat) by omega)
      have d1 : decide (((isum (l.take k) : Nat) : Int) + (4 + (l[k].1.length : Int) + (l[k].2.length : Int)) < (isum l : Nat) - (isum (l.take k) : Nat)) = true := by simp; omega
      have bd : isum (l.take k) + (4 + l[k].1.length + l[k].2.length) ≤ isum l := by omega
      clear hsz hle hz r1 r2 HM HM3 HD hlt
      generalize l[k].1.length = n1 at *
      generalize l[k].2.length = n2 at *
      generalize isum (l.take k) = s1 at *
      generalize isum l = all at *
      go_wp2_with fail
      refine (C.out _).mono ?_
      rintro e w2 ⟨rfl, hb2⟩
      have p1 := ((bcellT hb2) b (o + k * 3) hbw).trans g1
      have p2 := ((bcellT hb2) b (o + k * 3 + 1) hbw).trans g2
      have p3 := ((bcellT hb2) b (o + k * 3 + 2) hbw).trans g3
      have B2 := Lib.hid (HB.out.trans (hb2.mono HB.out.size))
      clear hb2 g1 g2 g3
      go_wp2_with fail
      refine (C.out _).mono ?_
      rintro e w3 ⟨rfl, hb3⟩
      have B3 := Lib.hid (B2.out.trans (hb3.mono B2.out.size))
      clear hb3 p1 p2 p3
      go_wp2_with fail
      go_roundw
      case rel => exact ⟨k + 1, hk1, by go_num, by rw [HSZ.out], HM2, B3⟩
      case measure => simp [intOf]; omega
    · have HM2 := Lib.hid (show mid l = k by rw [HM.out, HM3.out, if_neg hlt]; rfl)
      have d1 : decide (((isum (l.take k) : Nat) : Int) + (4 + (l[k].1.length : Int) + (l[k].2.length : Int)) < (isum l : Nat) - (isum (l.take k) : Nat)) = false := by simp; omega
      have bd : isum (l.take k) + (4 + l[k].1.length + l[k].2.length) ≤ isum l := by omega
      clear hsz hle hz r1 r2 HM HM3 HD hlt
      generalize l[k].1.length = n1 at *
      generalize l[k].2.length = n2 at *
      generalize isum (l.take k) = s1 at *
      generalize isum l = all at *
      go_wp2_with fail
      refine (C.out _).mono ?_
      rintro e w2 ⟨rfl, hb2⟩
      have B2 := Lib.hid (HB.out.trans (hb2.mono HB.out.size))
      clear hb2
      go_wp2_with fail
      go_ret
      exact ⟨by rw [HM2.out]; rfl, B2.out⟩
end
end Go.Proofs.YtcjokkjepgfinaaGreatDoor.Tr
