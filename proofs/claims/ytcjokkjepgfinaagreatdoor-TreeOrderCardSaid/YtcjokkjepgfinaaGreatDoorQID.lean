import Derived.Test.YtcjokkjepgfinaaGreatDoorQHX
import Derived.Test.YtcjokkjepgfinaaGreatDoorQHT
import Derived.Test.YtcjokkjepgfinaaGreatDoorQSN
import Derived.Test.YtcjokkjepgfinaaGreatDoorQG8
import Derived.Test.YtcjokkjepgfinaaGreatDoorQHW
import Derived.Test.YtcjokkjepgfinaaGreatDoorQHA
import Derived.Test.YtcjokkjepgfinaaGreatDoorQHS
import Derived.Test.YtcjokkjepgfinaaGreatDoorQHF
set_option linter.unusedVariables false
set_option linter.unusedSimpArgs false
namespace Go.Proofs.YtcjokkjepgfinaaGreatDoor.Tr
set_option maxRecDepth 8000
open Go.RowKit Mem Sk
open Dk (Fr)
structure SoftAt (lv : Nat) (E : Nat → Prop) (w : World) (b i : Nat) : Prop where
  ex : ∃ b2 j : Nat, w.cell? ⟨b, i + 1, none⟩ = some (.pointer (some ⟨b2, 0, none⟩)) ∧ w.cell? ⟨b2, 1, none⟩ = some (.int .i64 (j : Int)) ∧ j < lv ∧ b2 < w.heap.size ∧ ¬ E b2
def IsSl (w : World) (b i : Nat) : Prop := ∃ A n c, w.cell? ⟨b, i, none⟩ = some (.slice A n c)
structure Sof (lv : Nat) (K E : Nat → Prop) (w w' : World) (E' : Nat → Prop) : Prop where
  os : w'.os = w.os
  tape : w'.tape = w.tape
  output : w'.output = w.output
  size : w.heap.size ≤ w'.heap.size
  foot : ∀ b, b < w.heap.size → E' b → E b
  hard : ∀ b, b < w.heap.size → K b → w'.heap[b]? = w.heap[b]?
  cell : ∀ b i, b < w.heap.size → ¬ E b → w'.cell? ⟨b, i, none⟩ = w.cell? ⟨b, i, none⟩ ∨ (IsSl w b i ∧ IsSl w' b i ∧ SoftAt lv E' w' b i)
  froz : ∀ b i, b < w.heap.size → ¬ E b → w'.frozen? ⟨b, i, none⟩ = w.frozen? ⟨b, i, none⟩
section
variable {lv lv' : Nat} {K E E' E2 H : Nat → Prop} {w w' w2 : World} {N : Nat} {v : Value}
theorem Sof.ofKf (h : Kf E w w' E') (hK : ∀ b, K b → ¬ E b) (lv : Nat) : Sof lv K E w w' E' :=
  ⟨h.fr.os, h.fr.tape, h.fr.output, h.fr.size, h.foot, fun b hb hk => h.fr.block b hb (hK b hk), fun b i hb hf => .inl (World.cell?_of_block (h.fr.block b hb hf)), fun b i hb hf => frozen_of_block (h.fr.block b hb hf) i⟩
theorem Sof.ofBel (h : Below w.heap.size w w') (lv : Nat) : Sof lv K E w w' E :=
  ⟨h.os, h.tape, h.output, h.size, fun _ _ e => e, fun b hb _ => h.block b hb, fun b i hb _ => .inl (World.cell?_of_block (h.block b hb)), fun b i hb _ => frozen_of_block (h.block b hb) i⟩
theorem Sof.stay (h : Sof lv K E w w' E') {b i : Nat} {x : Value} (hb : b < w.heap.size) (hf : ¬ E b) (hc : w.cell? ⟨b, i, none⟩ = some x) (hx : ∀ A n c, x ≠ .slice A n c) : w'.cell? ⟨b, i, none⟩ = some x := by
  rcases h.cell b i hb hf with e | ⟨⟨A, n, c, e⟩, _⟩
  · exact e.trans hc
  · rw [hc] at e; injection e with e; exact absurd e (hx A n c)
theorem SoftAt.keep {b i : Nat} (s : SoftAt lv E w b i) (h : Sof lv' K E w w' E') (hb : b < w.heap.size) (hf : ¬ E b) : SoftAt lv E' w' b i := by
  obtain ⟨b2, j, h1, h2, h3, h4, h5⟩ := s.ex
  exact ⟨b2, j, h.stay hb hf h1 (fun _ _ _ e => by cases e), h.stay h4 h5 h2 (fun _ _ _ e => by cases e), h3, Nat.lt_of_lt_of_le h4 h.size, fun e => h5 (h.foot b2 h4 e)⟩
theorem SoftAt.mono {b i : Nat} (s : SoftAt lv E w b i) (hl : lv ≤ lv') : SoftAt lv' E w b i := by
  obtain ⟨b2, j, h1, h2, h3, h4, h5⟩ := s.ex
  exact ⟨b2, j, h1, h2, Nat.lt_of_lt_of_le h3 hl, h4, h5⟩
theorem Sof.mono (h : Sof lv K E w w' E') (hl : lv ≤ lv') : Sof lv' K E w w' E' :=
  ⟨h.os, h.tape, h.output, h.size, h.foot, h.hard, fun b i hb hf => (h.cell b i hb hf).imp id fun ⟨a, b, c⟩ => ⟨a, b, c.mono hl⟩, h.froz⟩
theorem Sof.trans (h : Sof lv K E w w' E') (k : Sof lv K E' w' w2 E2) : Sof lv K E w w2 E2 := by
  refine ⟨k.os.trans h.os, k.tape.trans h.tape, k.output.trans h.output, Nat.le_trans h.size k.size, fun b hb e => h.foot b hb (k.foot b (Nat.lt_of_lt_of_le hb h.size) e), fun b hb hk => (k.hard b (Nat.lt_of_lt_of_le hb h.size) hk).trans (h.hard b hb hk), fun b i hb hf => ?_, fun b i hb hf => (k.froz b i (Nat.lt_of_lt_of_le hb h.size) fun e => hf (h.foot b hb e)).trans (h.froz b i hb hf)⟩
  have hb2 := Nat.lt_of_lt_of_le hb h.size
  have hf2 : ¬ E' b := fun e => hf (h.foot b hb e)
  rcases h.cell b i hb hf with e1 | ⟨a1, a2, a3⟩
  · rcases k.cell b i hb2 hf2 with e2 | ⟨b1, b2, b3⟩
    · exact .inl (e2.trans e1)
    · refine .inr ⟨?_, b2, b3⟩
      obtain ⟨A, n, c, e⟩ := b1
      exact ⟨A, n, c, e1 ▸ e⟩
  · rcases k.cell b i hb2 hf2 with e2 | ⟨b1, b2, b3⟩
    · refine .inr ⟨a1, ?_, a3.keep k hb2 hf2⟩
      obtain ⟨A, n, c, e⟩ := a2
      exact ⟨A, n, c, e2.trans e⟩
    · exact .inr ⟨a1, b2, b3⟩
theorem Sof.store {b i n c : Nat} {A : Option Addr} (hb : b < w.heap.size) (hK : ¬ K b) (hs : IsSl w b i) (hf : SoftAt lv E w b i) : Sof lv K E w (w.setCell ⟨b, i, none⟩ (.slice A n c)) E := by
  have hsz : (w.setCell ⟨b, i, none⟩ (.slice A n c)).heap.size = w.heap.size := size_setCell _ _ _
  obtain ⟨A0, n0, c0, h0⟩ := hs
  obtain ⟨b2, j, h1, h2, h3, h4, h5⟩ := hf.ex
  have hne : (⟨b, i, none⟩ : Addr) ≠ ⟨b2, 1, none⟩ := fun e => by
    injection e with e1 e2 _
    subst e1 e2
    rw [h0] at h2; cases h2
  refine ⟨rfl, rfl, rfl, Nat.le_of_eq hsz.symm, fun _ _ e => e, fun q _ hk => Below.heap_setCell _ _ _ _ (fun e => hK (by have e : q = b := e; rw [← e]; exact hk)), fun q m hq _ => ?_, fun q m _ _ => World.frozen?_setCell _ _ _ _⟩
  by_cases e : (⟨b, i, none⟩ : Addr) = ⟨q, m, none⟩
  · injection e with e1 e2 _
    subst e1 e2
    refine .inr ⟨⟨A0, n0, c0, h0⟩, ⟨A, n, c, World.cell?_setCell_same _ _ _ h0⟩, ⟨b2, j, ?_, ?_, h3, by rw [hsz]; exact h4, h5⟩⟩
    · exact (World.cell?_setCell_other _ _ _ _ (by simp)).trans h1
    · exact (World.cell?_setCell_other _ _ _ _ hne).trans h2
  · exact .inl (World.cell?_setCell_other _ _ _ _ e)
abbrev Or2 (H E : Nat → Prop) : Nat → Prop := fun b => H b ∨ E b
theorem RdF.sof {l : By} (h : RdF w (Or2 H E) v l) (q : Sof lv K E w w' E') : RdF w' (Or2 H E') v l :=
  h.keep q.size fun b hb hf => ⟨fun e => hf (e.imp id (q.foot b hb)), fun j x e => q.stay hb (fun e => hf (.inr e)) e (fun _ _ _ e => by cases e)⟩
theorem NodeW.sof {b k : Nat} {iv : Value} (h : NodeW w (Or2 H E) N b k iv) (hi : ∃ A n c, iv = .slice A n c) (q : Sof lv K E w w' E') : NodeW w' (Or2 H E') N b k iv := by
  have hf : ¬ E b := fun e => h.out (.inr e)
  have no : ∀ (i : Nat) (o : Option Value), w.cell? ⟨b, i + 1, none⟩ = o → (∀ p, o ≠ some (.pointer p)) → ¬ SoftAt lv E' w' b i := fun i o ho hp s => by
    obtain ⟨b2, j, h1, _⟩ := s.ex
    rcases q.cell b (i + 1) h.lt hf with e | ⟨_, ⟨A, n, c, e⟩, _⟩
    · rw [e, ho] at h1; exact hp _ h1
    · rw [e] at h1; cases h1
  have hc : ∀ (i : Nat) (x : Value) (o : Option Value), w.cell? ⟨b, i, none⟩ = some x → w.cell? ⟨b, i + 1, none⟩ = o → (∀ p, o ≠ some (.pointer p)) → w'.cell? ⟨b, i, none⟩ = some x := fun i x o hx ho hp => by
    rcases q.cell b i h.lt hf with e | ⟨_, _, s⟩
    · exact e.trans hx
    · exact absurd s (no i o ho hp)
  refine ⟨Nat.lt_of_lt_of_le h.lt q.size, fun e => h.out (e.imp id (q.foot b h.lt)), h.low, q.stay h.lt hf h.c0 (fun _ _ _ e => by cases e), q.stay h.lt hf h.c1 (fun _ _ _ e => by cases e), hc 2 _ _ h.c2 h.c3 (fun _ e => by cases e), hc 3 _ _ h.c3 h.c4 (fun p e => ?_), hc 4 _ _ h.c4 h.c5 (fun _ e => by cases e), ?_⟩
  · obtain ⟨A, n, c, rfl⟩ := hi; cases e
  · rcases q.cell b 5 h.lt hf with e | ⟨⟨A, n, c, e⟩, _⟩
    · exact e.trans h.c5
    · rw [h.c5] at e; cases e
theorem Slots.slice {n : Nat} {F : Nat → Prop} {P : Nat → Value → Value → Value → Prop} (h : Slots w F N v n P) : ∃ A n c, v = .slice A n c := by
  obtain ⟨A, c, e, _⟩ := h; exact ⟨A, _, c, e⟩
theorem slots_sof {n : Nat} {P Q : Nat → Value → Value → Value → Prop} (h : Slots w (Or2 H E) N v n P) (q : Sof lv K E w w' E')
    (hform : ∀ i kv rv mv, P i kv rv mv → (∃ A n c, kv = .slice A n c) ∧ (∃ A n c, rv = .slice A n c) ∧ ∃ p, mv = .pointer p)
    (hPQ : ∀ i kv rv rv' mv, i < n → P i kv rv mv → (rv' = rv ∨ ((∃ A n c, rv' = .slice A n c) ∧ ∃ b2 j : Nat, mv = .pointer (some ⟨b2, 0, none⟩) ∧ w'.cell? ⟨b2, 1, none⟩ = some (.int .i64 (j : Int)) ∧ j < lv)) → Q i kv rv' mv) : Slots w' (Or2 H E') N v n Q := by
  obtain ⟨A, c, e, h1, h2, h3, h4⟩ := h
  refine ⟨A, c, e, h1, h2, h3, fun hn => ?_⟩
  obtain ⟨b, o, e2, hb, hf, hN, hz, hc⟩ := h4 hn
  have hfE : ¬ E b := fun e => hf (.inr e)
  refine ⟨b, o, e2, Nat.lt_of_lt_of_le hb q.size, fun e => hf (e.imp id (q.foot b hb)), hN, fun j => (q.froz b j hb hfE).trans (hz j), fun i hi => ?_⟩
  obtain ⟨kv, rv, mv, c1, c2, c3, p⟩ := hc i hi
  obtain ⟨⟨Ak, nk, ck, rfl⟩, ⟨Ar, nr, cr, rfl⟩, ⟨pm, rfl⟩⟩ := hform _ _ _ _ p
  have k3 : w'.cell? ⟨b, o + i * 3 + 2, none⟩ = some (.pointer pm) := q.stay hb hfE c3 (fun _ _ _ e => by cases e)
  have k1 : w'.cell? ⟨b, o + i * 3, none⟩ = some (.slice Ak nk ck) := by
    rcases q.cell b (o + i * 3) hb hfE with e | ⟨_, _, s⟩
    · exact e.trans c1
    · exfalso
      obtain ⟨b2, j, g1, _⟩ := s.ex
      rcases q.cell b (o + i * 3 + 1) hb hfE with e | ⟨_, ⟨A', n', c', e⟩, _⟩
      · rw [e, c2] at g1; cases g1
      · rw [e] at g1; cases g1
  rcases q.cell b (o + i * 3 + 1) hb hfE with e | ⟨_, ⟨A', n', c', e⟩, s⟩
  · exact ⟨_, _, _, k1, e.trans c2, k3, hPQ _ _ _ _ _ hi p (.inl rfl)⟩
  · obtain ⟨b2, j, g1, g2, g3, _⟩ := s.ex
    rw [k3] at g1
    injection g1 with g1
    exact ⟨_, _, _, k1, e, k3, hPQ _ _ _ _ _ hi p (.inr ⟨⟨A', n', c', rfl⟩, b2, j, by rw [g1], g2, g3⟩)⟩
theorem Ent.sof {k : Nat} {x : Kid k} {rv rv' mv : Value} (h : Ent false w (Or2 H E) N k x rv mv) (q : Sof lv K E w w' E') (hr : rv' = rv ∨ ((∃ A n c, rv' = .slice A n c) ∧ ∃ b2 : Nat, mv = .pointer (some ⟨b2, 0, none⟩))) : Ent false w' (Or2 H E') N k x rv' mv := by
  induction k generalizing rv rv' mv with
  | zero =>
    rcases hr with rfl | ⟨_, b2, e⟩
    · exact ⟨h.1.sof q, h.2⟩
    · rw [h.2] at e; cases e
  | succ k ih =>
    rcases h with ⟨h1, h2, h3⟩ | ⟨h1, h2, _, b, iv, h4, h5, h6⟩
    · rcases hr with rfl | ⟨_, b2, e⟩
      · exact .inl ⟨h1, h2.sof q, h3⟩
      · rw [h3] at e; cases e
    · refine .inr ⟨h1, ?_, fun e => (by cases e), b, iv, h4, h5.sof h6.slice q, ?_⟩
      · rcases hr with rfl | ⟨hr, _⟩
        · exact h2
        · exact hr
      · refine slots_sof h6 q (fun i kv rv mv ⟨y, h7, h8, h9⟩ => ⟨?_, h9.rform, h9.ptr⟩) ?_
        · obtain ⟨A, c, e⟩ := h8.form; exact ⟨A, _, c, e⟩
        · rintro i kv rv rv' mv _ ⟨y, h7, h8, h9⟩ hc
          exact ⟨y, h7, h8.sof q, ih h9 (hc.imp id fun ⟨a, b2, j, e, _⟩ => ⟨a, b2, e⟩)⟩
theorem ItsAt.sof {k : Nat} {l : Its k} (h : ItsAt false w (Or2 H E) N k v l) (q : Sof lv K E w w' E') : ItsAt false w' (Or2 H E') N k v l := by
  refine slots_sof h q (fun i kv rv mv ⟨y, h7, h8, h9⟩ => ⟨?_, h9.rform, h9.ptr⟩) ?_
  · obtain ⟨A, c, e⟩ := h8.form; exact ⟨A, _, c, e⟩
  · rintro i kv rv rv' mv _ ⟨y, h7, h8, h9⟩ hc
    exact ⟨y, h7, h8.sof q, h9.sof q (hc.imp id fun ⟨a, b2, j, e, _⟩ => ⟨a, b2, e⟩)⟩
end
end Go.Proofs.YtcjokkjepgfinaaGreatDoor.Tr
namespace Go.Proofs.YtcjokkjepgfinaaGreatDoor.Tr
set_option maxRecDepth 8000
open Sk
structure Was (s s' : Sto) : Prop where
  good : SGood s'
  n : s'.n = s.n
  kept : s'.kept = s.kept
  marks : s'.marks = s.marks
  force : s'.inForce = s.inForce
  stamp : s'.stamp = s.stamp
  dead : s'.dead = s.dead
  us : s.us.length ≤ s'.us.length
  view : s.marks ≠ [] → ∀ k, k ≤ s.us.length → s'.view k = s.view k
theorem Was.refl {s : Sto} (h : SGood s) : Was s s := ⟨h, rfl, rfl, rfl, rfl, rfl, rfl, Nat.le_refl _, fun _ _ _ => rfl⟩
theorem Was.trans {s s1 s2 : Sto} (h : Was s s1) (k : Was s1 s2) : Was s s2 :=
  ⟨k.good, k.n.trans h.n, k.kept.trans h.kept, k.marks.trans h.marks, k.force.trans h.force, k.stamp.trans h.stamp, k.dead.trans h.dead, Nat.le_trans h.us k.us,
   fun hm j hj => (k.view (by rw [h.marks]; exact hm) j (Nat.le_trans hj h.us)).trans (h.view hm j hj)⟩
theorem Was.did {s : Sto} {u : Un} {v : Vw} (hg : SGood (s.did u v)) : Was s (s.did u v) :=
  ⟨hg, rfl, rfl, rfl, rfl, rfl, rfl, by unfold Sto.did; simp only; split <;> simp, fun hm j hj => by rw [did_view s u v hm j, if_pos hj]⟩
theorem Was.gone {s s' : Sto} (h : Was s s') (d : Dk.Dsk) : Sk.gone s' d = Sk.gone s d := by unfold Sk.gone; rw [h.dead]
theorem cnt_set {f g : Nat → Bool} {p : Nat} (h : ∀ q, q ≠ p → g q = f q) (hf : f p = false) (hg : g p = true) : ∀ k, cntTo g k = cntTo f k + if p < k then 1 else 0
  | 0 => rfl
  | k + 1 => by
    have ih := cnt_set h hf hg k
    show cntTo g k + (g k).toNat = cntTo f k + (f k).toNat + _
    by_cases e : k = p
    · subst e
      rw [ih, hf, hg, if_neg (Nat.lt_irrefl k), if_pos (Nat.lt_succ_self k)]; simp
    · rw [ih, h k e]
      by_cases hp : p < k
      · rw [if_pos hp, if_pos (by omega)]; omega
      · rw [if_neg hp, if_neg (by omega)]; omega
theorem cnt_full {f : Nat → Bool} {n : Nat} (h : ∀ q, 2 ≤ q → q < n → f q = true) : ∀ k, k ≤ n → k - 2 ≤ cntTo f k
  | 0, _ => by omega
  | k + 1, hk => by
    have ih := cnt_full h k (by omega)
    show _ ≤ cntTo f k + (f k).toNat
    rcases Nat.lt_or_ge k 2 with h2 | h2
    · omega
    · rw [h k h2 (by omega)]; simp; omega
theorem spare_pos {s : Sto} (hg : SGood s) (hl : 0 < s.left) : s.spare ≠ 0 ∧ 2 ≤ s.spare ∧ s.spare < s.n ∧ s.free s.spare = true := by
  rcases spare_is s with ⟨h1, h2⟩ | ⟨h1, h2, h3, _⟩
  · exfalso
    have := cnt_full (f := s.used) (n := s.n) (fun q q1 q2 => by
      have := h2 q q1 q2
      unfold Sto.free at this
      unfold Sto.used
      rcases e1 : s.cur.now.has q with _ | _ <;> rcases e2 : s.kept.has q with _ | _ <;> simp_all) s.n (Nat.le_refl _)
    rw [left_small hg] at hl
    omega
  · exact ⟨by omega, h1, h2, h3⟩
structure Tks (d : Dk.Dsk) (s s' : Sto) (ps : List Nat) : Prop where
  was : Was s s'
  root : s'.cur.now.root = s.cur.now.root
  more : ∀ q, (s'.cur.now.has q).toNat = (s.cur.now.has q).toNat + ps.count q
  same : ∀ q, s.cur.now.has q = true → rdOf s' d q = rdOf s d q
  left : s'.left + ps.length = s.left
theorem Tks.nil {d : Dk.Dsk} {s : Sto} (h : SGood s) : Tks d s s [] := ⟨Was.refl h, rfl, fun _ => by simp, fun _ _ => rfl, rfl⟩
theorem Tks.has {d : Dk.Dsk} {s s' : Sto} {ps : List Nat} (h : Tks d s s' ps) {q : Nat} (hq : s.cur.now.has q = true) : s'.cur.now.has q = true := by
  have := h.more q
  rw [hq] at this
  rcases e : s'.cur.now.has q with _ | _
  · rw [e] at this; simp at this; omega
  · rfl
theorem Tks.trans {d : Dk.Dsk} {s s1 s2 : Sto} {ps qs : List Nat} (h : Tks d s s1 ps) (k : Tks d s1 s2 qs) : Tks d s s2 (ps ++ qs) :=
  ⟨h.was.trans k.was, k.root.trans h.root, fun q => by rw [k.more, h.more, List.count_append]; omega, fun q hq => (k.same q (h.has hq)).trans (h.same q hq), by rw [List.length_append]; have := h.left; have := k.left; omega⟩
theorem turn_at (t : Sta) (p q : Nat) : (t.turn p).has q = if q = p then !t.has q else t.has q := by
  unfold Sta.turn Sk.flip; rfl
theorem Tks.one {s : Sto} {d : Dk.Dsk} (hg : SGood s) (hd : Sk.gone s d = false) {l : List UInt8} (hl : l.length ≤ 4011) (h : 0 < s.left) :
    ansT s d l = 0 ∧ Tks d s (doT s d l) [numT s d l] ∧ numT s d l ≠ 0 ∧ numT s d l < 65536 ∧ rdOf (doT s d l) d (numT s d l) = some l := by
  obtain ⟨h0, h1, h2, h3⟩ := spare_pos hg h
  have ha : ansT s d l = 0 := by unfold ansT; rw [hd, if_neg (by simp), if_neg (by omega), if_neg h0]
  have en : numT s d l = s.spare := by unfold numT; rw [if_pos ha]
  have ed : doT s d l = s.take s.spare l := by unfold doT; rw [if_pos ha]
  have hgood : SGood (doT s d l) := doT_good hg
  rw [ed] at hgood
  have hf : s.cur.now.has s.spare = false ∧ s.kept.has s.spare = false := by
    unfold Sto.free at h3
    simpa using h3
  have n5 := hg.n5
  rw [en, ed]
  have hnow : ∀ q, (s.take s.spare l).cur.now.has q = if q = s.spare then !s.cur.now.has q else s.cur.now.has q := fun q => turn_at _ _ _
  have hkept : (s.take s.spare l).kept = s.kept := rfl
  refine ⟨ha, ⟨Was.did hgood, rfl, fun q => ?_, fun q hq => ?_, ?_⟩, h0, by omega, ?_⟩
  · rw [hnow q]
    by_cases e : q = s.spare
    · rw [if_pos e, e, hf.1]; simp
    · rw [if_neg e, List.count_singleton]
      have : (s.spare == q) = false := by simpa using fun e2 => e e2.symm
      rw [this]; simp
  · have e : q ≠ s.spare := fun e => by rw [e, hf.1] at hq; cases hq
    unfold rdOf
    have : (s.take s.spare l).cur.fresh q = s.cur.fresh q := put_other _ _ e
    rw [this]
  · have hu := cnt_set (f := s.used) (g := (s.take s.spare l).used) (p := s.spare) (fun q hq => by
      unfold Sto.used
      rw [hnow q, if_neg hq, hkept]) (by unfold Sto.used; rw [hf.1, hf.2]; rfl) (by unfold Sto.used; rw [hnow, if_pos rfl, hf.1]; simp) 4096
    rw [if_pos (by omega)] at hu
    have hl := left_le hgood
    show (s.take s.spare l).left + 1 = s.left
    have en2 : (s.take s.spare l).n = s.n := rfl
    unfold Sto.left at *
    rw [en2] at *
    omega
  · unfold rdOf
    have : (s.take s.spare l).cur.fresh s.spare = some l := put_same _ _ _
    rw [this]
def AsgE : (k : Nat) → Kid k → Kid k → Prop
  | 0, x, y => x = y
  | k + 1, t, u => (pg (k := k) t = none ∧ (∃ p, pg (k := k) u = some p ∧ p < 65536 ∧ p ≠ 0) ∧ Asg k (sub t) (sub u)) ∨ (pg (k := k) t ≠ none ∧ u = t)
theorem asgL_eq {α : Type} : ∀ {l m : List (By × α)}, AsgL (fun x y => x = y) l m → l = m
  | [], [], _ => rfl
  | x :: _, y :: _, h => by rw [asgL_eq h.2, Prod.ext h.1.1 h.1.2]
theorem asg_of {k : Nat} {l m : Its k} (h : AsgL (AsgE k) l m) : Asg k l m := by
  cases k with
  | zero => exact asgL_eq h
  | succ k => exact h
structure Tkn (d : Dk.Dsk) (s s' : Sto) (k : Nat) (l m : Its k) (ps : List Nat) : Prop where
  tks : Tks d s s' ps
  asg : AsgL (AsgE k) l m
  rep : Rep (rdOf s' d) k m
  cnt : ∀ q, cnt q k m = cnt q k l + ps.count q
  len : ps.length = wk k l
def Has (s : Sto) (k : Nat) (l : Its k) : Prop := ∀ q, 0 < cnt q k l → s.cur.now.has q = true
theorem Tkn.has {d : Dk.Dsk} {s s' : Sto} {k : Nat} {l m : Its k} {ps : List Nat} (t : Tkn d s s' k l m ps) (h : Has s k l) : Has s' k m := fun q hq => by
  rw [t.cnt q] at hq
  have := t.tks.more q
  rcases e : s'.cur.now.has q with _ | _
  · rw [e] at this
    have h0 : (s.cur.now.has q).toNat = 0 := by have e0 : false.toNat = 0 := rfl; omega
    have h2 : ¬ 0 < Tr.cnt q k l := fun hc => by rw [h q hc] at h0; cases h0
    have e0 : false.toNat = 0 := rfl
    omega
  · rfl
theorem Tkn.nil {d : Dk.Dsk} {s : Sto} (h : SGood s) (k : Nat) : Tkn d s s k [] [] [] := ⟨Tks.nil h, trivial, Rep.nil _ k, fun q => by simp, by cases k <;> rfl⟩
theorem Tkn.app {d : Dk.Dsk} {s s1 s2 : Sto} {k : Nat} {l m l' m' : Its k} {ps qs : List Nat} (t : Tkn d s s1 k l m ps) (u : Tkn d s1 s2 k l' m' qs) (h : Has s k l) : Tkn d s s2 k (l ++ l') (m ++ m') (ps ++ qs) :=
  ⟨t.tks.trans u.tks, AsgL.app t.asg u.asg, Rep.app.2 ⟨t.rep.congr fun q hq => u.tks.same q (t.has h q hq), u.rep⟩, fun q => by rw [cnt_app, cnt_app, t.cnt, u.cnt, List.count_append]; omega,
   by rw [List.length_append, t.len, u.len, wk_app]⟩
theorem Tkn.old {d : Dk.Dsk} {s : Sto} (h : SGood s) {k : Nat} {x : By × Kid k} (hr : Rep (rdOf s d) k [x]) (ho : ∀ k' (e : k = k' + 1), pg (k := k') (e ▸ x.2 : Kid (k' + 1)) ≠ none) : Tkn d s s k [x] [x] [] := by
  refine ⟨Tks.nil h, ⟨⟨rfl, ?_⟩, trivial⟩, hr, fun q => by simp, ?_⟩
  · cases k with
    | zero => rfl
    | succ k => exact .inr ⟨ho k rfl, rfl⟩
  · cases k with
    | zero => rfl
    | succ k =>
      rw [wk_cons, if_neg (ho k rfl)]; rfl
theorem rep_one {f : Nat → Option By} {k p : Nat} {key : By} {m : Its k} (h1 : f p = some (told k m)) (h2 : Rep f k m) : Rep f (k + 1) [(key, mkT (some p) m)] := by
  intro x hx
  simp at hx; subst hx
  exact ⟨fun q hq => by rw [pg_mk] at hq; injection hq with hq; rw [← hq, sub_mk]; exact h1, h2⟩
theorem Tkn.new {d : Dk.Dsk} {s s1 s2 : Sto} {k p : Nat} {key : By} {t : T k} {m : Its k} {ps : List Nat} (u : Tkn d s s1 k (sub t) m ps) (hn : pg t = none) (h : Has s k (sub t)) (v : Tks d s1 s2 [p]) (hp : p ≠ 0) (hp2 : p < 65536) (hf : rdOf s2 d p = some (told k m)) :
    Tkn d s s2 (k + 1) [(key, t)] [(key, mkT (some p) m)] (ps ++ [p]) := by
  refine ⟨u.tks.trans v, ⟨⟨rfl, .inl ⟨hn, ⟨p, rfl, hp2, hp⟩, asg_of u.asg⟩⟩, trivial⟩, rep_one hf (u.rep.congr fun q hq => v.same q (u.has h q hq)), fun q => ?_, ?_⟩
  · rw [cnt_cons, cnt_cons, cnt_nil]
    unfold cntT
    rw [hn, pg_mk, sub_mk, u.cnt, List.count_append, List.count_singleton]
    by_cases e : p = q
    · subst e; simp; omega
    · simp [e]
  · rw [wk_cons, if_pos hn, List.length_append, u.len]
    show _ = _ + wk (k + 1) []
    have : wk (k + 1) [] = 0 := rfl
    rw [this]; simp; omega
theorem Tkn.top {d : Dk.Dsk} {s s1 s2 : Sto} {k p : Nat} {l m : Its k} {ps : List Nat} (u : Tkn d s s1 k l m ps) (h : Has s k l) (v : Tks d s1 s2 [p]) (hp : p ≠ 0) (hp2 : p < 65536) (hf : rdOf s2 d p = some (told k m)) :
    Taken s.cur.now.has s2.cur.now.has (rdOf s d) (rdOf s2 d) ⟨k, l⟩ p m (ps ++ [p]) :=
  ⟨asg_of u.asg, (u.tks.trans v).more, (u.tks.trans v).same, u.rep.congr fun q hq => v.same q (u.has h q hq), hf, hp, hp2, fun q => by
    show (if p = q then 1 else 0) + Tr.cnt q k m = Tr.cnt q k l + _
    rw [u.cnt, List.count_append, List.count_singleton]
    by_cases e : p = q
    · subst e; simp; omega
    · simp [e]⟩
end Go.Proofs.YtcjokkjepgfinaaGreatDoor.Tr
namespace Go.Proofs.YtcjokkjepgfinaaGreatDoor.Tr
set_option maxRecDepth 8000
open Go.RowKit Mem Sk
open Dk (Fr)
section
variable {lv : Nat} {K E E' H F : Nat → Prop} {w w' : World} {N k : Nat} {v iv : Value}
theorem Ent.ptr2 {s : Bool} {x : Kid k} {rv mv : Value} (h : Ent s w F N k x rv mv) : mv = .pointer none ∨ ∃ b2, mv = .pointer (some ⟨b2, 0, none⟩) := by
  cases k with
  | zero => exact .inl h.2
  | succ k =>
    rcases h with ⟨_, _, h3⟩ | ⟨_, _, _, b, iv, h4, _⟩
    · exact .inl h3
    · exact .inr ⟨b, h4⟩
theorem Ent.held {s : Bool} {x : Kid k} {rv : Value} (h : Ent s w F N k x rv (.pointer none)) : RdF w F rv (rst k x) ∧ ∀ k' (e : k = k' + 1), pg (k := k') (e ▸ x : Kid (k' + 1)) ≠ none := by
  cases k with
  | zero => exact ⟨h.1, fun k' e => by cases e⟩
  | succ k =>
    rcases h with ⟨h1, h2, h3⟩ | ⟨_, _, _, b, iv, h4, _⟩
    · exact ⟨h2, fun k' e => by cases e; exact h1⟩
    · cases h4
theorem Ent.fresh {s : Bool} {x : Kid k} {rv : Value} {b2 : Nat} (h : Ent s w F N k x rv (.pointer (some ⟨b2, 0, none⟩))) : 1 ≤ k ∧ w.cell? ⟨b2, 1, none⟩ = some (.int .i64 ((k - 1 : Nat) : Int)) ∧ b2 < w.heap.size ∧ ¬ F b2 := by
  cases k with
  | zero => cases h.2
  | succ k =>
    rcases h with ⟨_, _, h3⟩ | ⟨_, _, _, b, iv, h4, h5, _⟩
    · cases h3
    · injection h4 with h4
      injection h4 with h4
      injection h4 with h4 _ _
      subst h4
      exact ⟨by omega, h5.c1, h5.lt, h5.out⟩
def RestOk (w : World) (F : Nat → Prop) (k : Nat) (iv : Value) (m : Its k) : Prop := ∀ b o n c, iv = .slice (some ⟨b, o, none⟩) n c → ∀ (j : Nat) (y : By × Kid k), m[j]? = some y → ∃ rv, w.cell? ⟨b, o + j * 3 + 1, none⟩ = some rv ∧ RdF w F rv (rst k y.2)
theorem RestOk.nil (w : World) (F : Nat → Prop) (k : Nat) (iv : Value) : RestOk w F k iv [] := fun b o n c _ j y hy => by simp at hy
theorem RestOk.sof {l m : Its k} (h : RestOk w (Or2 H E) k iv m) (hi : ItsAt false w (Or2 H E) N k iv l) (hl : m.length ≤ l.length) (q : Sof lv K E w w' E') (hlv : lv ≤ k - 1) : RestOk w' (Or2 H E') k iv m := by
  intro b o n c e j y hy
  obtain ⟨rv, h1, h2⟩ := h b o n c e j y hy
  have hj : j < l.length := by have := (List.getElem?_eq_some_iff.1 hy).1; omega
  obtain ⟨A, c', e1, _, _, _, g⟩ := hi
  obtain ⟨b', o', e2, hb, hf, _, _, hc⟩ := g (by omega)
  subst e2
  rw [e1] at e
  injection e with e3 e4 e5
  injection e3 with e3
  injection e3 with e6 e7 _
  subst e6 e7
  have hfE : ¬ E b' := fun e => hf (.inr e)
  obtain ⟨kv, rv2, mv, c1, c2, c3, x, hx, r1, r2⟩ := hc j hj
  refine ⟨rv, ?_, h2.sof q⟩
  rcases q.cell b' (o' + j * 3 + 1) hb hfE with e | ⟨_, _, s⟩
  · exact e.trans h1
  · exfalso
    obtain ⟨b2, i, g1, g2, g3, _⟩ := s.ex
    obtain ⟨pm, rfl⟩ := r2.ptr
    rw [q.stay hb hfE c3 (fun _ _ _ e => by cases e)] at g1
    injection g1 with g1
    rw [g1] at r2
    obtain ⟨f1, f2, f3, f4⟩ := r2.fresh
    have := q.stay f3 (fun e => f4 (.inr e)) f2 (fun _ _ _ e => by cases e)
    rw [g2] at this
    injection this with this
    injection this with _ this
    omega
theorem RestOk.snoc {b o n c i : Nat} {m : Its k} {y : By × Kid k} {rv : Value} (h : RestOk w F k (.slice (some ⟨b, o, none⟩) n c) m) (hi : m.length = i) (h1 : w.cell? ⟨b, o + i * 3 + 1, none⟩ = some rv) (h2 : RdF w F rv (rst k y.2)) : RestOk w F k (.slice (some ⟨b, o, none⟩) n c) (m ++ [y]) := by
  intro b' o' n' c' e j z hz
  injection e with e1 e2 e3
  injection e1 with e1
  injection e1 with e4 e5 _
  subst e4 e5
  rcases Nat.lt_or_ge j m.length with hj | hj
  · rw [List.getElem?_append_left hj] at hz
    exact h _ _ _ _ rfl j z hz
  · rw [List.getElem?_append_right hj] at hz
    have hj0 : j - m.length = 0 := by
      rcases Nat.eq_zero_or_pos (j - m.length) with h | h
      · exact h
      · rw [List.getElem?_eq_none (by simp; omega)] at hz; cases hz
    rw [hj0] at hz
    simp at hz
    subst hz
    obtain rfl : j = i := by omega
    exact ⟨rv, h1, h2⟩
theorem asgL_keys {α : Type} {R : α → α → Prop} {l m : List (By × α)} (h : AsgL R l m) (i : Nat) (x y : By × α) (hx : l[i]? = some x) (hy : m[i]? = some y) : x.1 = y.1 := by
  obtain ⟨z, hz, e, _⟩ := AsgL.at h hy
  rw [hx] at hz; injection hz with hz; rw [hz]; exact e
theorem RestOk.kr {l m : Its k} {R : Kid k → Kid k → Prop} (h : RestOk w F k iv m) (hi : ItsAt false w F N k iv l) (ha : AsgL R l m) : KR w F N iv (its m) := by
  have hlen := AsgL.len ha
  obtain ⟨A, c, e1, h1, h2, h3, g⟩ := hi
  unfold KR
  rw [its_length, ← hlen]
  refine ⟨A, c, e1, h1, h2, h3, fun hn => ?_⟩
  obtain ⟨b, o, e2, hb, hf, hN, hz, hc⟩ := g hn
  refine ⟨b, o, e2, hb, hf, hN, hz, fun j hj => ?_⟩
  obtain ⟨kv, rv2, mv, c1, c2, c3, x, hx, r1, r2⟩ := hc j hj
  have hj2 : j < m.length := by omega
  subst e2
  obtain ⟨rv, t1, t2⟩ := h _ _ _ _ e1 j m[j] (List.getElem?_eq_getElem hj2)
  rw [c2] at t1
  injection t1 with t1
  subst t1
  obtain ⟨q, rfl⟩ := r2.ptr
  have hk := asgL_keys ha j x m[j] hx (List.getElem?_eq_getElem hj2)
  refine ⟨kv, rv2, _, c1, c2, c3, it m[j], ?_, ?_, t2, q, rfl⟩
  · unfold its; rw [List.getElem?_map, List.getElem?_eq_getElem hj2]; rfl
  · show RdF w F kv m[j].1
    rw [← hk]; exact r1
def FitE : (k : Nat) → Kid k → Prop
  | 0, _ => True
  | k + 1, t => ∃ m lo hi, Ok k m lo hi (sub (k := k) t)
theorem fit_of {m : Nat} {lo hi : By} {l : Its k} (h : Ok k m lo hi l) {x : By × Kid k} (hx : x ∈ l) : FitE k x.2 := by
  cases k with
  | zero => trivial
  | succ k =>
    obtain ⟨i, hi⟩ := List.getElem?_of_mem hx
    exact ⟨_, _, _, near_kid (cut_at hi ▸ h.near)⟩
theorem Rep.one {f : Nat → Option By} {l : Its k} (h : Rep f k l) {x : By × Kid k} (hx : x ∈ l) : Rep f k [x] := by
  cases k with
  | zero => trivial
  | succ k => intro y hy; simp at hy; subst hy; exact h y hx
theorem Has.one {s : Sto} {l : Its k} (h : Has s k l) {x : By × Kid k} (hx : x ∈ l) : Has s k [x] := fun q hq => h q (by
  obtain ⟨a, b, rfl⟩ := List.append_of_mem hx
  rw [cnt_app, show x :: b = [x] ++ b from rfl, cnt_app]; omega)
theorem Has.more {d : Dk.Dsk} {s s' : Sto} {l : Its k} {ps : List Nat} (h : Has s k l) (t : Tks d s s' ps) : Has s' k l := fun q hq => t.has (h q hq)
end
structure TkIn (B : Nat) (W : World) (sb db : Nat) (yd : Dk.Lay) (d : Dk.Dsk) (K H : Nat → Prop) (N cb : Nat) (X : World) (s : Sto) (y : SLay) (m : Nat) : Prop where
  bo : Bo B W X sb db y yd s d m
  gone : Sk.gone s d = false
  bn : B ≤ N
  klt : ∀ b, K b → b < X.heap.size
  kno : ∀ b, K b → ¬ both y yd b
  kh : ∀ b, K b → b < N ∨ H b
  hlt : ∀ b, H b → b < X.heap.size
  c0 : X.cell? ⟨cb, 0, none⟩ = some (pt sb)
  kcb : K cb
section
variable {B : Nat} {W : World} {sb db : Nat} {yd : Dk.Lay} {d : Dk.Dsk} {K H : Nat → Prop} {N cb : Nat} {X X' : World} {s s' : Sto} {y y' : SLay} {m m' : Nat} {lv k : Nat}
theorem TkIn.sof (h : TkIn B W sb db yd d K H N cb X s y m) (q : Sof lv K (both y yd) X X' (both y' yd)) (bo : Bo B W X' sb db y' yd s' d m') (hg : Sk.gone s' d = false) : TkIn B W sb db yd d K H N cb X' s' y' m' :=
  ⟨bo, hg, h.bn, fun b e => Nat.lt_of_lt_of_le (h.klt b e) q.size, fun b e f => h.kno b e (q.foot b (h.klt b e) f), h.kh, fun b e => Nat.lt_of_lt_of_le (h.hlt b e) q.size, (World.cell?_of_block (a := ⟨cb, 0, none⟩) (q.hard cb (h.klt cb h.kcb) h.kcb)).trans h.c0, h.kcb⟩
theorem TkIn.bel (h : TkIn B W sb db yd d K H N cb X s y m) (hb : Below X.heap.size X X') : TkIn B W sb db yd d K H N cb X' s y m :=
  h.sof (Sof.ofBel hb 0) (h.bo.keep hb) h.gone
theorem Bo_poke (bo : Bo B W X sb db y yd s d m) (p : Addr) (u : Value) (hf : ¬ both y yd p.block) (hB : B ≤ p.block) : Bo B W (X.setCell p u) sb db y yd s d m :=
  ⟨bo.st.poke p u (fun e => hf (.inr e)) hB, bo.is.poke (fun e => hf (.inl e)) u, bo.good, bo.apart, bo.low, bo.nn, bo.sm, bo.tabW, bo.posB⟩
theorem TkIn.flt (h : TkIn B W sb db yd d K H N cb X s y m) : ∀ b, Or2 H (both y yd) b → b < X.heap.size := fun b e =>
  e.elim (h.hlt b) fun e => e.elim (fun e => h.bo.is.foot _ e) (fun e => h.bo.st.is.foot _ e)
theorem TkIn.nk (h : TkIn B W sb db yd d K H N cb X s y m) {b : Nat} (hN : N ≤ b) (hf : ¬ Or2 H (both y yd) b) : ¬ K b := fun e => by
  rcases h.kh b e with h | h
  · omega
  · exact hf (.inl h)
theorem ItsAt.cellr {w : World} {F : Nat → Prop} {l : Its k} {b o n c j : Nat} (h : ItsAt false w F N k (.slice (some ⟨b, o, none⟩) n c) l) (hj : j < l.length) :
    b < w.heap.size ∧ ¬ F b ∧ N ≤ b ∧ (∀ i, w.frozen? ⟨b, i, none⟩ = false) ∧ ∃ Ak ck Ar nr cr mv, w.cell? ⟨b, o + j * 3, none⟩ = some (.slice Ak l[j].1.length ck) ∧ w.cell? ⟨b, o + j * 3 + 1, none⟩ = some (.slice Ar nr cr) ∧ w.cell? ⟨b, o + j * 3 + 2, none⟩ = some mv ∧
      RdF w F (.slice Ak l[j].1.length ck) l[j].1 ∧ Ent false w F N k l[j].2 (.slice Ar nr cr) mv := by
  obtain ⟨A, c', e1, _, _, _, g⟩ := h
  obtain ⟨b', o', e2, hb, hf, hN, hz, hc⟩ := g (by omega)
  injection e1 with e1 _ _
  rw [e2] at e1
  injection e1 with e1
  injection e1 with e3 e4 _
  subst e3 e4
  obtain ⟨kv, rv, mv, c1, c2, c3, x, hx, r1, r2⟩ := hc j hj
  obtain ⟨_, rfl⟩ := List.getElem?_eq_some_iff.1 hx
  obtain ⟨Ak, ck, rfl⟩ := r1.form
  obtain ⟨Ar, nr, cr, rfl⟩ := r2.rform
  exact ⟨hb, hf, hN, hz, Ak, ck, Ar, nr, cr, mv, c1, c2, c3, r1, r2⟩
theorem RestOk.store {E : Nat → Prop} {w : World} {b o n c i : Nat} {mt : Its k} {y : By × Kid k} {A : Option Addr} {n' c' : Nat} (h : RestOk w (Or2 H E) k (.slice (some ⟨b, o, none⟩) n c) mt) (hi : mt.length = i) (hs : IsSl w b (o + i * 3 + 1))
    (q : Sof lv K E w (w.setCell ⟨b, o + i * 3 + 1, none⟩ (.slice A n' c')) E) (hr : RdF w (Or2 H E) (.slice A n' c') (rst k y.2)) : RestOk (w.setCell ⟨b, o + i * 3 + 1, none⟩ (.slice A n' c')) (Or2 H E) k (.slice (some ⟨b, o, none⟩) n c) (mt ++ [y]) := by
  obtain ⟨A0, n0, c0, h0⟩ := hs
  refine RestOk.snoc ?_ hi (World.cell?_setCell_same _ _ _ h0) (hr.sof q)
  intro b' o' n'' c'' e j z hz
  obtain ⟨rv, h1, h2⟩ := h b' o' n'' c'' e j z hz
  injection e with e1 _ _
  injection e1 with e1
  injection e1 with e4 e5 _
  subst e4 e5
  have hj : j < mt.length := (List.getElem?_eq_some_iff.1 hz).1
  exact ⟨rv, (World.cell?_setCell_other _ _ _ _ (fun e => by injection e with _ e _; omega)).trans h1, h2.sof q⟩
def HKid (B : Nat) (W : World) (sb db : Nat) (yd : Dk.Lay) (d : Dk.Dsk) (K H : Nat → Prop) (N cb k : Nat) : Prop :=
  ∀ (X : World) (s : Sto) (y : SLay) (m : Nat) (x : By × Kid k) (p : V3) (b2 : Nat), TkIn B W sb db yd d K H N cb X s y m → EntR false X (Or2 H (both y yd)) N k p x → p.2.2 = .pointer (some ⟨b2, 0, none⟩) →
    FitE k x.2 → k ≤ 256 → iw k x.2 ≤ s.left → Has s k [x] → Rep (rdOf s d) k [x] → m + 2 * iw k x.2 < 90000000 →
    Calls Tryz.prog 97 #[.pointer (some ⟨cb, 0, none⟩), .pointer (some ⟨b2, 0, none⟩)] X fun e w' => ∃ (g : Nat) (s2 : Sto) (y2 : SLay) (t2 : Kid k) (qs : List Nat), e = .returned (.int .i64 (g : Int)) ∧ g < 65536 ∧ rst k t2 = be2 g ∧
      Tkn d s s2 k [x] [(x.1, t2)] qs ∧ TkIn B W sb db yd d K H N cb w' s2 y2 (m + 2 * qs.length) ∧ Sof (k - 1) K (both y yd) X w' (both y2 yd)
set_option maxHeartbeats 8000000 in
theorem take_node (hkid : HKid B W sb db yd d K H N cb k) {b mn : Nat} {iv : Value} {l : Its k} {lo hi : By} (T : TkIn B W sb db yd d K H N cb X s y m) (hn : NodeW X (Or2 H (both y yd)) N b k iv) (hit : ItsAt false X (Or2 H (both y yd)) N k iv l)
    (hok : Ok k mn lo hi l) (hk : k < 256) (hleft : wk k l + 1 ≤ s.left) (hhas : Has s k l) (hrep : Rep (rdOf s d) k l) (hm : m + 2 * (wk k l + 1) < 90000000) :
    Calls Tryz.prog 97 #[.pointer (some ⟨cb, 0, none⟩), .pointer (some ⟨b, 0, none⟩)] X fun e w' => ∃ (g : Nat) (s1 s2 : Sto) (y2 : SLay) (mt : Its k) (ps : List Nat), e = .returned (.int .i64 (g : Int)) ∧
      Tkn d s s1 k l mt ps ∧ (Tks d s1 s2 [g] ∧ g ≠ 0 ∧ g < 65536 ∧ rdOf s2 d g = some (told k mt)) ∧ TkIn B W sb db yd d K H N cb w' s2 y2 (m + 2 * (ps.length + 1)) ∧ Sof k K (both y yd) X w' (both y2 yd) := by
  obtain ⟨A, c, rfl, hc1, hc2⟩ := hit.form
  have TI := Lib.hid T; have HN := Lib.hid hn; have HI := Lib.hid hit; have HK := Lib.hid hkid; have HO := Lib.hid hok; have HL := Lib.hid hleft; have HH := Lib.hid hhas; have HR := Lib.hid hrep; have HM := Lib.hid hm
  have g4 := hn.c4
  have hcapi : (l.length : Int) ≤ 9223372036854775807 := by unfold maxLen at hc2; omega
  have good := Lib.hid T.bo.good
  clear T hn hit hkid hok hleft hhas hrep hm hc2
  go_enter Tryz.func97, Tryz.ntmps97
  go_wp2_with fail
  clear g4
  go_loopw [16] (fun i wr => ∃ (j : Nat) (s1 : Sto) (y1 : SLay) (mt : Its k) (ps : List Nat), i = .int .i64 j ∧ j ≤ l.length ∧ Hid (Tkn d s s1 k (l.take j) mt ps) ∧ Hid (TkIn B W sb db yd d K H N cb wr s1 y1 (m + 2 * ps.length)) ∧ Hid (Sof k K (both y yd) X wr (both y1 yd)) ∧ Hid (RestOk wr (Or2 H (both y1 yd)) k (.slice A l.length c) mt)) (fun i _ => l.length - (intOf i).toNat)
  case atStart => exact ⟨0, s, y, [], [], rfl, Nat.zero_le _, Lib.hid (Tkn.nil good.out k), TI, Lib.hid (Sof.ofBel (Below.refl _ _) k), Lib.hid (RestOk.nil _ _ _ _)⟩
  case round =>
    obtain ⟨j, s1, y1, mt, ps, rfl, hj, TK, T1, Q1, R1⟩ := hrel
    have HI1 := Lib.hid (HI.out.sof Q1.out)
    have HN1 := Lib.hid (HN.out.sof ⟨_, _, _, rfl⟩ Q1.out)
    have hmt := AsgL.len TK.out.asg
    by_cases hlt : j < l.length
    · have hmj : mt.length = j := by rw [← hmt, List.length_take]; omega
      have HMJ := Lib.hid hmj
      obtain ⟨b', o, rfl⟩ : ∃ b' o, A = some ⟨b', o, none⟩ := by
        obtain ⟨A', c', e, _, _, _, g⟩ := HI.out
        obtain ⟨b', o, e2, _⟩ := g (by omega)
        injection e with e _ _
        exact ⟨b', o, e.trans e2⟩
      obtain ⟨hb', hf', hN', hz', Ak, ck, Ar, nr, cr, mv, g1, g2, g3, r1, r2⟩ := HI1.out.cellr hlt
      have h3i : (j : Int) < (l.length : Int) := by omega
      have HX := Lib.hid (List.take_succ_eq_append_getElem hlt)
      have hxm : l[j] ∈ l := List.getElem_mem hlt
      have HHP := Lib.hid (show Has s k (l.take j) from fun q hq => HH.out q (by
        have : cnt q k l = cnt q k (l.take j ++ l.drop j) := by rw [List.take_append_drop]
        rw [this, cnt_app]; omega))
      have REP := Lib.hid ((HR.out.one hxm).congr fun q hq => TK.out.tks.same q ((HH.out.one hxm) q hq))
      have HAS := Lib.hid ((HH.out.one hxm).more TK.out.tks)
      have B1 := Lib.hid (box1 wr (.cells #[.slice Ak l[j].1.length ck, .slice Ar nr cr, mv] 80))
      have V1 := VN.new wr #[.slice Ak l[j].1.length ck, .slice Ar nr cr, mv] 80
      rcases r2.ptr2 with rfl | ⟨b2, rfl⟩
      · have TO := Lib.hid (Tkn.old (d := d) T1.out.bo.good REP.out r2.held.2)
        have RH := Lib.hid r2.held.1
        have RG := Lib.hid g2
        clear g2
        have g2 := RG.out
        clear V1 r1 r2 hf' hN' hz' HMJ hxm hmt
        generalize hkl : l[j].1.length = kl at *
        clear hkl
        go_wp2_with fail
        go_roundw
        case rel =>
          have q := Sof.ofBel (K := K) (E := both y1 yd) B1.out 0
          refine ⟨j + 1, s1, y1, mt ++ [l[j]], ps ++ [], by go_num, by omega, Lib.hid ?_, Lib.hid ?_, Lib.hid ?_, Lib.hid ?_⟩
          · rw [HX.out]; exact TK.out.app TO.out HHP.out
          · rw [List.append_nil]; exact T1.out.bel B1.out
          · exact Q1.out.trans (q.mono (by omega))
          · refine RestOk.snoc (R1.out.sof HI1.out (by omega) q (by omega)) hmj ?_ (RH.out.sof q)
            exact (bcellT B1.out b' _ hb').trans RG.out
        case measure => simp [intOf]; omega
      · obtain ⟨f1, f2, f3, f4⟩ := r2.fresh
        have hfit := fit_of HO.out hxm
        have hle := wk_take_le l (j + 1)
        have hwk := wk_take l j hlt
        have hlen := TK.out.len
        have hleft := TK.out.tks.left
        have h1 := HL.out
        have h2 := HM.out
        have q12 : Sof 0 K (both y1 yd) wr (wr.alloc (.cells #[.slice Ak l[j].1.length ck, .slice Ar nr cr, .pointer (some ⟨b2, 0, none⟩)] 80)).drew (both y1 yd) := Sof.ofBel B1.out.drew 0
        have C := Lib.hid (HK.out _ s1 y1 _ l[j] (.slice Ak l[j].1.length ck, .slice Ar nr cr, .pointer (some ⟨b2, 0, none⟩)) b2 (T1.out.bel B1.out.drew) ⟨r1.sof q12, r2.sof q12 (.inl rfl)⟩ rfl hfit (by omega) (by omega) HAS.out REP.out (by omega))
        have Q12 := Lib.hid q12
        have BD := Lib.hid B1.out.drew
        have n4 := HN1.out.c4
        have F1 := Lib.hid (And.intro f1 (And.intro f2 (And.intro f3 f4)))
        have G3 := Lib.hid g3
        have HF' := Lib.hid (And.intro hb' (And.intro hf' hN'))
        have n41 := (bcellT B1.out b 4 HN1.out.lt).trans n4
        have v2 := V1.c 2 _ rfl
        clear hfit hle hwk hlen hleft h1 h2 q12 r1 r2 f1 f2 f3 f4 HMJ hxm hmt hf' hN' hz'
        generalize hkl : l[j].1.length = kl at *
        clear hkl
        go_wp2_with fail
        clear n4 g1 g2 g3 V1
        generalize wr.alloc (.cells #[.slice Ak kl ck, .slice Ar nr cr, .pointer (some ⟨b2, 0, none⟩)] 80) = W1 at *
        go_region_with (first
          | (go_at_call 97
             refine C.out.mono ?_
             rintro e w2 ⟨g, s2, y2, t2, qs, rfl, d1, d2, d3, d4, d5⟩
             have D1 := Lib.hid d1; have D2 := Lib.hid d2; have D3 := Lib.hid d3; have D4 := Lib.hid d4; have D5 := Lib.hid d5
             have n42 := (HN1.out.sof ⟨_, _, _, rfl⟩ ((Q12.out.mono (Nat.zero_le _)).trans d5)).c4
             clear d1 d2 d3 d4 d5)
          | (go_at_call 126
             refine (digits_any g D1.out _).mono ?_
             rintro e w3 ⟨dv, rfl, hD, hb3⟩
             have Q13 := Lib.hid (((Q12.out.mono (Nat.zero_le _)).trans D5.out).trans (Sof.ofBel hb3 (k - 1)))
             have T3 := Lib.hid (D4.out.bel hb3)
             have RD3 := Lib.hid (RdF.own (F := Or2 H (both y2 yd)) hD (fun b hb => D4.out.flt b hb))
             obtain ⟨Ad, cd, rfl, _, _⟩ := hD.form
             have hl2 : (be2 g).length = 2 := rfl
             rw [hl2] at RD3 ⊢
             obtain ⟨k1, k2, k3, k4, _, _, Ar3, nr3, cr3, _, _, x1, _, _, _⟩ := (HI1.out.sof Q13.out).cellr hlt
             have n43 := (HN1.out.sof ⟨_, _, _, rfl⟩ Q13.out).c4
             have z1 := k4 (o + j * 3 + 1)
             have K3 := Lib.hid (And.intro k1 (And.intro k2 k3))
             clear k1 k2 k3 k4 hD hb3 hl2))
        all_goals
          go_wp2_with fail
          go_roundw
          case rel =>
            obtain ⟨f1, f2, f3, f4⟩ := F1.out
            obtain ⟨hb', hf', hN'⟩ := HF'.out
            have m3 := Q13.out.stay hb' (fun e => hf' (.inr e)) G3.out (fun _ _ _ e => by cases e)
            have l3 := Q13.out.stay f3 (fun e => f4 (.inr e)) f2 (fun _ _ _ e => by cases e)
            have hs : IsSl w3 b' (o + j * 3 + 1) := ⟨_, _, _, x1⟩
            have qst : Sof k K (both y2 yd) w3 (w3.setCell ⟨b', o + j * 3 + 1, none⟩ (.slice Ad 2 cd)) (both y2 yd) := Sof.store K3.out.1 (T3.out.nk K3.out.2.2 K3.out.2.1) hs ⟨b2, k - 1, m3, l3, by omega, Nat.lt_of_lt_of_le f3 Q13.out.size, fun e => f4 (.inr (Q13.out.foot b2 f3 e))⟩
            refine ⟨j + 1, s2, y2, mt ++ [(l[j].1, t2)], ps ++ qs, by go_num, by omega, Lib.hid ?_, Lib.hid ?_, Lib.hid ?_, Lib.hid ?_⟩
            · rw [HX.out]; exact TK.out.app D3.out HHP.out
            · have e : m + 2 * ps.length + 2 * qs.length = m + 2 * (ps ++ qs).length := by rw [List.length_append]; omega
              rw [← e]
              exact T3.out.sof qst (Bo_poke T3.out.bo _ _ (fun e => K3.out.2.1 (.inr e)) (Nat.le_trans T3.out.bn K3.out.2.2)) T3.out.gone
            · exact (Q1.out.trans (Q13.out.mono (by omega))).trans qst
            · refine RestOk.store (R1.out.sof HI1.out (by omega) Q13.out (Nat.le_refl _)) hmj hs qst ?_
              show RdF w3 _ _ (rst k t2)
              rw [D2.out]; exact RD3.out
          case measure => simp [intOf]; omega
    · obtain rfl : j = l.length := by omega
      have h3i : ¬ ((l.length : Nat) : Int) < ((l.length : Nat) : Int) := by omega
      rw [List.take_length] at TK
      have KRR := Lib.hid (R1.out.kr HI1.out TK.out.asg)
      have hok := (ok_iff.1 ((asg_of TK.out.asg).ok HO.out)).1
      have hsz : nsz mt ≤ 4011 := hok.2.2
      have hsum : 1 + isum (its mt) = nsz mt := rfl
      have hleft := TK.out.tks.left
      have hlen := TK.out.len
      have h1 := HL.out
      have h2 := HM.out
      have hlens : ∀ x ∈ its mt, x.1.length < 65536 ∧ x.2.length < 65536 := fun x hx => by
        obtain ⟨a, b, e⟩ := List.append_of_mem hx
        have e2 : isum (its mt) = isum (a ++ x :: b) := by rw [e]
        rw [isum_app, isum_cons] at e2
        unfold isz at e2
        omega
      have hlm : (its mt).length = l.length := by rw [its_length, ← AsgL.len TK.out.asg]
      have TOLD := Lib.hid (fun W' (hb : Below wr.heap.size wr W') => told_any (KRR.out.kf (kfb hb)) (fun b e => Nat.lt_of_lt_of_le (T1.out.flt b e) hb.size) hk hlens (by omega) 0 none none 0 0 0 0)
      have hlt4 : (told k mt).length ≤ 4011 := by rw [length_told]; exact hsz
      obtain ⟨o1, o2, o3, o4, o5⟩ := Tks.one (d := d) (l := told k mt) T1.out.bo.good T1.out.gone hlt4 (by omega)
      have ONE := Lib.hid (And.intro o2 (And.intro o3 (And.intro o4 o5)))
      have TAKE := Lib.hid (fun W' (hT : TkIn B W sb db yd d K H N cb W' s1 y1 (m + 2 * ps.length)) (At : Option Addr) (ct : Nat) (hr : Rd W' W'.heap.size At ct (told k mt)) => (show Calls Tryz.prog 127 #[pt sb, .slice At (told k mt).length ct] W' (fun e w' => e = .returned (.tuple #[.int .i64 (numT s1 d (told k mt) : Int), .int .i64 0]) ∧ ∃ y', Bo B W w' sb db y' yd (doT s1 d (told k mt)) d (m + 2 * ps.length + 2) ∧ Kf (both y1 yd) W' w' (both y' yd)) from by
        have := hT.bo.Take At ct _ (told k mt) hr rfl (by omega)
        rw [o1] at this; exact this))
      generalize numT s1 d (told k mt) = g at *
      generalize doT s1 d (told k mt) = s2 at *
      have e0 := HN1.out.c0; have e1 := HN1.out.c1; have e2 := HN1.out.c2; have e3 := HN1.out.c3; have e4 := HN1.out.c4
      have ec := T1.out.c0
      clear hok hsz hsum hleft hlen h1 h2 hlens hlm hlt4 o1 o2 o3 o4 o5 hmt
      go_wp2_with fail
      go_region_with (first
        | (go_at_call 128
           refine (TOLD.out _ (Below.refl _ _).drew).mono ?_
           rintro e w2 ⟨tv, rfl, hO, hb2⟩
           have hO' : Mem.Own 5 w2 _ tv (told k mt) := hO
           obtain ⟨At, ct, rfl, hRt, _⟩ := hO'.form
           have B2 := Lib.hid ((Below.refl _ _).drew.trans hb2 : Below wr.heap.size wr w2)
           have T2 := Lib.hid (T1.out.bel B2.out)
           have RT := Lib.hid hRt
           have ec2 := T2.out.c0
           clear hO hO' hRt hb2)
        | (go_at_call 127
           refine (TAKE.out _ T2.out _ _ RT.out).mono ?_
           rintro e w3 ⟨rfl, y3, bo3, kf3⟩
           have QT := Lib.hid (Sof.ofKf kf3 T2.out.kno k)
           have B3 := Lib.hid bo3
           clear bo3 kf3))
      all_goals
        go_wp2_with fail
        refine (must_ok _).mono ?_
        rintro e w4 ⟨rfl, rfl⟩
        go_wp2_with fail
        go_ret
        refine ⟨g, s1, s2, y3, mt, ps, rfl, TK.out, ONE.out, ?_, (Q1.out.trans (Sof.ofBel B2.out k)).trans QT.out⟩
        have e : m + 2 * ps.length + 2 = m + 2 * (ps.length + 1) := by omega
        rw [← e]
        exact T2.out.sof QT.out B3.out ((ONE.out.1.was.gone d).trans T2.out.gone)
theorem take_kid : ∀ k, HKid B W sb db yd d K H N cb k
  | 0 => fun X s y m x p b2 _ hE hp => by
    have : p.2.2 = .pointer none := hE.2.2
    rw [hp] at this; cases this
  | k + 1 => fun X s y m x p b2 T hE hp hfit hk hleft hhas hrep hm => by
    rcases hE.2 with ⟨_, _, h3⟩ | ⟨h1, _, _, b, iv, h4, h5, h6⟩
    · rw [hp] at h3; cases h3
    · rw [hp] at h4
      injection h4 with h4
      injection h4 with h4
      injection h4 with h4 _ _
      subst h4
      obtain ⟨mn, lo, hi, hok⟩ := hfit
      have e0 : iw (k + 1) x.2 = 1 + wk k (sub x.2) := (if_pos h1 : (if pg x.2 = none then 1 + wk k (sub x.2) else 0) = 1 + wk k (sub x.2))
      rw [e0] at hleft hm
      have hh : Has s k (sub x.2) := fun q hq => hhas q (by rw [cnt_cons, cnt_nil]; unfold cntT; omega)
      refine (take_node (take_kid k) T h5 h6 hok (by omega) (by omega) hh (hrep x (by simp)).2 (by omega)).mono ?_
      rintro e w' ⟨g, s1, s2, y2, mt, ps, rfl, t1, ⟨t2, t3, t4, t5⟩, t6, t7⟩
      refine ⟨g, s2, y2, mkT (some g) mt, ps ++ [g], rfl, t4, rfl, t1.new h1 hh t2 t3 t4 t5, ?_, t7⟩
      rw [List.length_append]; exact t6
end
end Go.Proofs.YtcjokkjepgfinaaGreatDoor.Tr
namespace Go.Proofs.YtcjokkjepgfinaaGreatDoor.Tr
set_option maxRecDepth 8000
open Sk
structure Gvs (d : Dk.Dsk) (s s' : Sto) (ps : List Nat) : Prop where
  was : Was s s'
  root : s'.cur.now.root = s.cur.now.root
  less : ∀ q, (s'.cur.now.has q).toNat + ps.count q = (s.cur.now.has q).toNat
  same : ∀ q, s'.cur.now.has q = true → rdOf s' d q = rdOf s d q
theorem Gvs.nil {d : Dk.Dsk} {s : Sto} (h : SGood s) : Gvs d s s [] := ⟨Was.refl h, rfl, fun _ => by simp, fun _ _ => rfl⟩
theorem Gvs.has {d : Dk.Dsk} {s s' : Sto} {ps : List Nat} (h : Gvs d s s' ps) {q : Nat} (hq : s'.cur.now.has q = true) : s.cur.now.has q = true := by
  have := h.less q
  rw [hq] at this
  rcases e : s.cur.now.has q with _ | _
  · rw [e] at this; simp at this
  · rfl
theorem Gvs.trans {d : Dk.Dsk} {s s1 s2 : Sto} {ps qs : List Nat} (h : Gvs d s s1 ps) (k : Gvs d s1 s2 qs) : Gvs d s s2 (ps ++ qs) :=
  ⟨h.was.trans k.was, k.root.trans h.root, fun q => by rw [List.count_append, ← h.less, ← k.less]; omega, fun q hq => (k.same q hq).trans (h.same q (k.has hq))⟩
theorem Gvs.one {s : Sto} {d : Dk.Dsk} (hg : SGood s) (hd : Sk.gone s d = false) {p : Nat} (hp : s.cur.now.has p = true) (hr : p ≠ s.cur.now.root) : ansG s d (p : Int) = 0 ∧ Gvs d s (doG s d (p : Int)) [p] := by
  have h5 := hg.n5
  have hlt := (hg.cur.has p hp).2
  have hb : s.badG (p : Int) = false := by
    unfold Sto.badG
    rw [hasI_nat _ _ (by omega), hp]
    have : ¬ ((p : Int) = (s.cur.now.root : Int)) := fun e => hr (by omega)
    simp [this]
  have ha : ansG s d (p : Int) = 0 := by unfold ansG; rw [hd, hb]; rfl
  have ed : doG s d (p : Int) = s.give p := by unfold doG; rw [hd, hb]; rfl
  have hgood : SGood (doG s d (p : Int)) := doG_good hg
  rw [ed] at hgood ⊢
  have hnow : ∀ q, (s.give p).cur.now.has q = if q = p then !s.cur.now.has q else s.cur.now.has q := fun q => turn_at _ _ _
  refine ⟨ha, Was.did hgood, rfl, fun q => ?_, fun q hq => ?_⟩
  · rw [hnow q]
    by_cases e : q = p
    · rw [if_pos e, e, hp]; simp
    · rw [if_neg e, List.count_singleton]
      have : (p == q) = false := by simpa using fun e2 => e e2.symm
      rw [this]; simp
  · have e : q ≠ p := fun e => by rw [hnow, if_pos e, e, hp] at hq; cases hq
    unfold rdOf
    have : (s.give p).cur.fresh q = s.cur.fresh q := put_other _ _ e
    rw [this]
structure Rtd (d : Dk.Dsk) (s s' : Sto) (p : Nat) : Prop where
  was : Was s s'
  root : s'.cur.now.root = p
  has : ∀ q, s'.cur.now.has q = s.cur.now.has q
  same : ∀ q, rdOf s' d q = rdOf s d q
theorem Rtd.one {s : Sto} {d : Dk.Dsk} (hg : SGood s) (hd : Sk.gone s d = false) {p : Nat} (hp : p = 0 ∨ s.cur.now.has p = true) : ansR s d (p : Int) = 0 ∧ Rtd d s (doR s d (p : Int)) p := by
  have h5 := hg.n5
  have hb : s.badR (p : Int) = false := by
    unfold Sto.badR
    rcases hp with rfl | hp
    · simp
    · have hlt := (hg.cur.has p hp).2
      rw [hasI_nat _ _ (by omega), hp]; simp
  have ha : ansR s d (p : Int) = 0 := by unfold ansR; rw [hd, hb]; rfl
  have ed : doR s d (p : Int) = s.setRoot p := by unfold doR; rw [hd, hb]; rfl
  have hgood : SGood (doR s d (p : Int)) := doR_good hg
  rw [ed] at hgood ⊢
  exact ⟨ha, Was.did hgood, rfl, fun q => rfl, fun q => rfl⟩
theorem left_is {s : Sto} {d : Dk.Dsk} (hg : SGood s) (hd : Sk.gone s d = false) : (if Sk.gone s d then (0 : Int) else ((s.n - 2 - cntTo s.used s.n : Nat) : Int)) = (s.left : Int) := by
  rw [left_small hg, hd]; rfl
end Go.Proofs.YtcjokkjepgfinaaGreatDoor.Tr
namespace Go.Proofs.YtcjokkjepgfinaaGreatDoor.Tr
set_option maxRecDepth 8000
open Go.RowKit Mem Sk
open Dk (Fr)
section
variable {B : Nat} {W : World} {sb db : Nat} {yd : Dk.Lay} {d : Dk.Dsk} {K H : Nat → Prop} {N cb base : Nat} {X X' : World} {s s' : Sto} {y y' : SLay} {m m' : Nat} {lv k : Nat} {gv nv : Value} {g : List Nat}
theorem keepC {w W W' : World} {p0 : Addr} {x0 : Value} (hb : Below W.heap.size W W') (h : Below w.heap.size w W ∧ W.cell? p0 = some x0) : Below w.heap.size w W' ∧ W'.cell? p0 = some x0 :=
  ⟨h.1.trans (hb.mono h.1.size), (hb.cell (World.block_lt_of_cell? _ _ h.2)).trans h.2⟩
theorem Ed.hard (E : Ed X base cb sb gv g) (q : Sof lv K (both y yd) X X' (both y' yd)) (hEK : ∀ b, EdB cb gv b → K b) : Ed X' base cb sb gv g := by
  have hc := q.hard cb E.lt (hEK cb (.inl rfl))
  refine ⟨Nat.lt_of_lt_of_le E.lt q.size, (World.cell?_of_block (a := ⟨cb, 0, none⟩) hc).trans E.c0, (World.cell?_of_block (a := ⟨cb, 1, none⟩) hc).trans E.c1, fun i => (frozen_of_block hc i).trans (E.z i), ?_, E.ne⟩
  exact Dk.owns_of_block E.own fun b hb => q.hard b (E.foot b (.inr hb)) (hEK b (.inr hb))
structure Wrote (d : Dk.Dsk) (g : List Nat) (s1 s2 : Sto) (p : Nat) : Prop where
  was : Was s1 s2
  root : s2.cur.now.root = p
  less : ∀ q, (s2.cur.now.has q).toNat + g.count q = (s1.cur.now.has q).toNat
  same : ∀ q, s2.cur.now.has q = true → rdOf s2 d q = rdOf s1 d q
theorem Wrote.of {d : Dk.Dsk} {g : List Nat} {s1 s2 s3 : Sto} {p : Nat} (h : Rtd d s1 s2 p) (k : Gvs d s2 s3 g) : Wrote d g s1 s3 p :=
  ⟨h.was.trans k.was, k.root.trans h.root, fun q => by rw [k.less, h.has], fun q hq => (k.same q hq).trans (h.same q)⟩
structure MayGive (g : List Nat) (s1 : Sto) (p : Nat) : Prop where
  root : p = 0 ∨ s1.cur.now.has p = true
  not : p ∉ g
  cnt : ∀ q, g.count q ≤ (s1.cur.now.has q).toNat
theorem MayGive.at {d : Dk.Dsk} {g : List Nat} {s1 s2 s3 : Sto} {p j : Nat} (M : MayGive g s1 p) (h : Rtd d s1 s2 p) (k : Gvs d s2 s3 (g.take j)) (hj : j < g.length) : s3.cur.now.has g[j] = true ∧ g[j] ≠ s3.cur.now.root := by
  have h1 := k.less g[j]
  rw [h.has] at h1
  have h2 := M.cnt g[j]
  have h3 : (g.take j).count g[j] + 1 ≤ g.count g[j] := by
    have : g.count g[j] = (g.take j ++ g.drop j).count g[j] := by rw [List.take_append_drop]
    rw [this, List.count_append, List.drop_eq_getElem_cons hj, List.count_cons_self]; omega
  refine ⟨?_, fun e => M.not ?_⟩
  · rcases e : s3.cur.now.has g[j] with _ | _
    · rw [e] at h1
      have e0 : false.toNat = 0 := rfl
      omega
    · rfl
  · rw [k.root, h.root] at e
    rw [← e]; exact List.getElem_mem hj
set_option maxHeartbeats 8000000 in
theorem write_ok {R : Nat → Sto → Prop} {wn spare M : Nat} (hnv : ∃ q, nv = .pointer q) (T : TkIn B W sb db yd d K H N cb X s y m) (E : Ed X base cb sb gv g) (hEK : ∀ b, EdB cb gv b → K b)
    (CW : ∀ W1, Below X.heap.size X W1 → Calls Tryz.prog 94 #[nv] W1 fun e w' => e = .returned (.int .i64 (wn : Int)) ∧ Below W1.heap.size W1 w')
    (CT : ∀ W1, Below X.heap.size X W1 → Calls Tryz.prog 97 #[.pointer (some ⟨cb, 0, none⟩), nv] W1 fun e w' => ∃ (p : Nat) (s1 : Sto) (y1 : SLay) (m1 : Nat), e = .returned (.int .i64 (p : Int)) ∧ (R p s1 ∧ m1 ≤ m + M) ∧ TkIn B W sb db yd d K H N cb w' s1 y1 m1 ∧ Sof k K (both y yd) W1 w' (both y1 yd))
    (hR : ∀ p s1, R p s1 → MayGive g s1 p) (hle : wn + spare ≤ s.left) (hm : m + M + 2 + 2 * g.length < 90000000) :
    Calls Tryz.prog 68 #[.pointer (some ⟨cb, 0, none⟩), nv, .int .i64 (spare : Int)] X fun e w' => e = .returned (.tuple #[]) ∧ ∃ (p : Nat) (s1 s2 : Sto) (y2 : SLay) (m2 : Nat), R p s1 ∧ Wrote d g s1 s2 p ∧ TkIn B W sb db yd d K H N cb w' s2 y2 m2 ∧ m2 ≤ m + M + 2 + 2 * g.length ∧ Sof k K (both y yd) X w' (both y2 yd) := by
  obtain ⟨nq, rfl⟩ := hnv
  have TI := Lib.hid T; have ED := Lib.hid E; have HEK := Lib.hid hEK; have HW := Lib.hid CW; have HT := Lib.hid CT; have HR := Lib.hid hR; have HM := Lib.hid hm
  have CL := Lib.hid (fun W1 (hb : Below X.heap.size X W1) => (show Calls Tryz.prog 24 #[pt sb] W1 (fun e w' => e = .returned (.int .i64 (s.left : Int)) ∧ Below W1.heap.size W1 w') from by
    have := (T.bel hb).bo.Left
    rw [left_is T.bo.good T.gone] at this; exact this))
  have c0 := T.c0
  have hl : s.left ≤ 4096 := by unfold Sto.left; have := T.bo.good.n5; omega
  have hi1 : IntKind.i64.wrap ((wn : Int) + (spare : Int)) = (wn : Int) + (spare : Int) := IntWalk.i64_in _ (by omega)
  have hd1 : decide ((s.left : Int) < (wn : Int) + (spare : Int)) = false := decide_eq_false (by omega)
  clear T E hEK CW CT hR hle hm
  go_enter Tryz.func68, Tryz.ntmps68
  go_wp2_with fail
  go_region_held3 (fun w' => Below X.heap.size X w' ∧ w'.cell? ⟨cb, 0, none⟩ = some (pt sb))
    (first | exact ⟨(Below.refl _ _).drew, c0⟩ | exact keepC hb ‹_› | go_keep)
    (first | (go_at_call 94; with_reducible refine (HW.out _ (And.left ‹_›)).mono ?_; rintro e w2 ⟨rfl, hb⟩)
           | (go_at_call 24; with_reducible refine (CL.out _ (And.left ‹_›)).mono ?_; rintro e w3 ⟨rfl, hb⟩))
  have hS : Below X.heap.size X w3 ∧ w3.cell? ⟨cb, 0, none⟩ = some (pt sb) := by assumption
  have BS := Lib.hid hS.1
  have c03 := hS.2
  have Q3 := Lib.hid (Sof.ofBel (K := K) (E := both y yd) hS.1.drew k)
  have CTT := Lib.hid (HT.out w3.drew hS.1.drew)
  clear hS
  go_wp2_with fail
  go_region_with (first
    | (go_at_call 97
       refine CTT.out.mono ?_
       rintro e w4 ⟨p, s1, y1, m1, rfl, ⟨r1, r2⟩, t1, q1⟩
       have RP := Lib.hid r1; have R2 := Lib.hid r2; have T1 := Lib.hid t1; have Q4 := Lib.hid (Q3.out.trans q1)
       have c04 := t1.c0
       obtain ⟨ha, hrt⟩ := Rtd.one (d := d) t1.bo.good t1.gone (HR.out _ _ r1).root
       have SR := Lib.hid (show Calls Tryz.prog 96 #[pt sb, .int .i64 (p : Int)] w4 (fun e w' => e = .returned (.int .i64 0) ∧ ∃ y', Bo B W w' sb db y' yd (doR s1 d (p : Int)) d (m1 + 2) ∧ Kf (both y1 yd) w4 w' (both y' yd)) from by
         have := t1.bo.SetRoot (p : Int) (by have := HM.out; omega)
         rw [ha] at this; exact this)
       have RT := Lib.hid hrt
       generalize doR s1 d (p : Int) = s2 at *
       clear r1 r2 t1 q1 ha hrt)
    | (go_at_call 96
       refine SR.out.mono ?_
       rintro e w5 ⟨rfl, y5, bo5, kf5⟩
       have q5 := Sof.ofKf kf5 T1.out.kno k
       have T5 := Lib.hid (T1.out.sof q5 bo5 ((RT.out.was.gone d).trans T1.out.gone))
       have Q5 := Lib.hid (Q4.out.trans q5)
       clear bo5 kf5 q5)
    | (go_at_call 95; refine (must_ok _).mono ?_; rintro e w6 ⟨rfl, rfl⟩))
  all_goals
    have E5 := Lib.hid (ED.out.hard Q5.out HEK.out)
    have g1 := E5.out.c1
    obtain ⟨Ag, cg, hgv, hri, _, _⟩ := E5.out.own.form
    subst hgv
    have hlg : (g.map fun n : Nat => (n : Int)).length = g.length := by simp
    rw [hlg] at g1
    have RI := Lib.hid hri
    have EK := Lib.hid (fun b o (e : Ag = some ⟨b, o, none⟩) => HEK.out b (.inr (by rw [e]; rfl)))
    have hcg : (g.length : Int) ≤ 9223372036854775807 := by have := HM.out; omega
    clear hri hlg c03
    go_wp2_with fail
    go_loopw [33] (fun i wr => ∃ (j : Nat) (s4 : Sto) (y4 : SLay), i = .int .i64 j ∧ j ≤ g.length ∧ Hid (Gvs d s2 s4 (g.take j)) ∧ Hid (TkIn B W sb db yd d K H N cb wr s4 y4 (m1 + 2 + 2 * j)) ∧ Hid (Sof k K (both y yd) X wr (both y4 yd)) ∧ Hid (∀ b, K b → wr.heap[b]? = w6.heap[b]?)) (fun i _ => g.length - (intOf i).toNat)
    case atStart => exact ⟨0, s2, y5, rfl, Nat.zero_le _, Lib.hid (Gvs.nil T5.out.bo.good), T5, Q5, Lib.hid (fun _ _ => rfl)⟩
    case round =>
      obtain ⟨j, s4, y4, rfl, hj, GV, T4, QQ, KK⟩ := hrel
      by_cases hlt : j < g.length
      · obtain ⟨hp, hr⟩ := (HR.out _ _ RP.out).at RT.out GV.out hlt
        obtain ⟨ha, hgv⟩ := Gvs.one (d := d) T4.out.bo.good T4.out.gone hp hr
        have GI := Lib.hid (show Calls Tryz.prog 98 #[pt sb, .int .i64 (g[j] : Int)] wr (fun e w' => e = .returned (.int .i64 0) ∧ ∃ y', Bo B W w' sb db y' yd (doG s4 d (g[j] : Int)) d (m1 + 2 + 2 * j + 2) ∧ Kf (both y4 yd) wr w' (both y' yd)) from by
          have := T4.out.bo.Give (g[j] : Int) (by have := HM.out; have := R2.out; omega)
          rw [ha] at this; exact this)
        have GO := Lib.hid hgv
        obtain ⟨b', o, rfl, hb', hcs⟩ := RI.out.2.2.2 (by simp; omega)
        have hx := hcs j (by simp; omega)
        have hx' : wr.cell? ⟨b', o + j, none⟩ = some (.int .i64 (g[j] : Int)) := (World.cell?_of_block (a := ⟨b', o + j, none⟩) (KK.out b' (EK.out b' o rfl))).trans (by rw [hx]; simp)
        have GT := Lib.hid (List.take_succ_eq_append_getElem hlt)
        have c04' := T4.out.c0
        have h3i : (j : Int) < (g.length : Int) := by omega
        clear hp hr ha hgv hcs hx
        generalize g[j] = pj at *
        generalize doG s4 d (pj : Int) = s5 at *
        go_wp2_with fail
        refine GI.out.mono ?_
        rintro e w7 ⟨rfl, y7, bo7, kf7⟩
        have q7 := Sof.ofKf kf7 T4.out.kno k
        have T7 := Lib.hid (T4.out.sof q7 bo7 ((GO.out.was.gone d).trans T4.out.gone))
        have Q7 := Lib.hid (QQ.out.trans q7)
        have K7 := Lib.hid (show ∀ b, K b → w7.heap[b]? = w6.heap[b]? from fun b hb => (q7.hard b (T4.out.klt b hb) hb).trans (KK.out b hb))
        clear bo7 kf7 q7
        go_wp2_with fail
        refine (must_ok _).mono ?_
        rintro e w8 ⟨rfl, rfl⟩
        go_wp2_with fail
        go_roundw
        case rel => exact ⟨j + 1, s5, y7, by go_num, by omega, Lib.hid (by rw [GT.out]; exact GV.out.trans GO.out), Lib.hid (by have := T7.out; rw [show m1 + 2 + 2 * j + 2 = m1 + 2 + 2 * (j + 1) by omega] at this; exact this), Q7, K7⟩
        case measure => simp [intOf]; omega
      · obtain rfl : j = g.length := by omega
        have h3i : ¬ ((g.length : Nat) : Int) < ((g.length : Nat) : Int) := by omega
        rw [List.take_length] at GV
        go_wp2_with fail
        go_end0
        exact ⟨rfl, p, s1, RP.out, s4, Wrote.of RT.out GV.out, y4, _, T4.out, by have := R2.out; omega, QQ.out⟩
end
section
variable {B : Nat} {W : World} {sb db : Nat} {yd : Dk.Lay} {d : Dk.Dsk} {K H : Nat → Prop} {N cb base : Nat} {X X' : World} {s s' : Sto} {y y' : SLay} {m m' : Nat} {lv k : Nat} {gv nv : Value} {g : List Nat}
def full3 : List PanicEntry := [{ v := .iface 107 (.int .i64 3), recovered := false }]
set_option maxHeartbeats 4000000 in
theorem write_full {wn spare : Nat} (hnv : ∃ q, nv = .pointer q) (T : TkIn B W sb db yd d K H N cb X s y m)
    (CW : ∀ W1, Below X.heap.size X W1 → Calls Tryz.prog 94 #[nv] W1 fun e w' => e = .returned (.int .i64 (wn : Int)) ∧ Below W1.heap.size W1 w')
    (hle : s.left < wn + spare) (hs : wn + spare ≤ 1000000) :
    Calls Tryz.prog 68 #[.pointer (some ⟨cb, 0, none⟩), nv, .int .i64 (spare : Int)] X fun e w' => e = .panicked full3 ∧ Below X.heap.size X w' := by
  obtain ⟨nq, rfl⟩ := hnv
  have HW := Lib.hid CW
  have CL := Lib.hid (fun W1 (hb : Below X.heap.size X W1) => (show Calls Tryz.prog 24 #[pt sb] W1 (fun e w' => e = .returned (.int .i64 (s.left : Int)) ∧ Below W1.heap.size W1 w') from by
    have := (T.bel hb).bo.Left
    rw [left_is T.bo.good T.gone] at this; exact this))
  have c0 := T.c0
  have hi1 : IntKind.i64.wrap ((wn : Int) + (spare : Int)) = (wn : Int) + (spare : Int) := IntWalk.i64_in _ (by omega)
  have hd1 : decide ((s.left : Int) < (wn : Int) + (spare : Int)) = true := decide_eq_true (by omega)
  clear T CW hle hs
  go_enter Tryz.func68, Tryz.ntmps68
  go_wp2_with fail
  go_region_held3 (fun w' => Below X.heap.size X w' ∧ w'.cell? ⟨cb, 0, none⟩ = some (pt sb))
    (first | exact ⟨(Below.refl _ _).drew, c0⟩ | exact keepC hb ‹_› | go_keep)
    (first | (go_at_call 94; with_reducible refine (HW.out _ (And.left ‹_›)).mono ?_; rintro e w2 ⟨rfl, hb⟩)
           | (go_at_call 24; with_reducible refine (CL.out _ (And.left ‹_›)).mono ?_; rintro e w3 ⟨rfl, hb⟩))
  have hS : Below X.heap.size X w3 ∧ w3.cell? ⟨cb, 0, none⟩ = some (pt sb) := by assumption
  have BS := Lib.hid hS.1
  clear hS
  go_wp2_with fail
  refine (throw_any 3 _).mono ?_
  rintro e w4 ⟨rfl, rfl⟩
  go_wp2_with fail
  exact ⟨rfl, rfl, BS.out⟩
theorem take_nil (w : World) (q : Option Addr) : Calls Tryz.prog 97 #[.pointer q, .pointer none] w fun e w' => e = .returned (.int .i64 0) ∧ w = w' := by
  go_enter Tryz.func97, Tryz.ntmps97
  go_wp2
  go_ret
  exact ⟨rfl, rfl⟩
theorem tks_has {s0 s1 : Sto} {p : Nat} {ps : List Nat} (t : Tks d s s0 ps) (v : Tks d s0 s1 [p]) : s1.cur.now.has p = true ∧ s.cur.now.has p = false := by
  have h := (t.trans v).more p
  rw [List.count_append, List.count_singleton_self] at h
  have e1 : (s1.cur.now.has p).toNat ≤ 1 := Bool.toNat_le _
  constructor
  · rcases e : s1.cur.now.has p with _ | _
    · rw [e] at h
      have e0 : false.toNat = 0 := rfl
      omega
    · rfl
  · rcases e : s.cur.now.has p with _ | _
    · rfl
    · rw [e] at h
      have e0 : true.toNat = 1 := rfl
      omega
theorem write_node {b mn spare : Nat} {iv : Value} {l : Its k} {lo hi : By} (T : TkIn B W sb db yd d K H N cb X s y m) (E : Ed X base cb sb gv g) (hEK : ∀ b, EdB cb gv b → K b) (hn : NodeW X (Or2 H (both y yd)) N b k iv) (hit : ItsAt false X (Or2 H (both y yd)) N k iv l)
    (hok : Ok k mn lo hi l) (hk : k < 256) (hhas : Has s k l) (hrep : Rep (rdOf s d) k l) (hg : ∀ q, g.count q ≤ (s.cur.now.has q).toNat) (hle : 1 + wk k l + spare ≤ s.left) (hm : m + 2 * (wk k l + 1) + 2 + 2 * g.length < 90000000) :
    Calls Tryz.prog 68 #[.pointer (some ⟨cb, 0, none⟩), .pointer (some ⟨b, 0, none⟩), .int .i64 (spare : Int)] X fun e w' => e = .returned (.tuple #[]) ∧
      ∃ (p : Nat) (s1 s2 : Sto) (y2 : SLay) (m2 : Nat), (∃ mt ps, Taken s.cur.now.has s1.cur.now.has (rdOf s d) (rdOf s1 d) ⟨k, l⟩ p mt ps) ∧ Was s s1 ∧ Wrote d g s1 s2 p ∧ TkIn B W sb db yd d K H N cb w' s2 y2 m2 ∧ m2 ≤ m + 2 * (wk k l + 1) + 2 + 2 * g.length ∧ Sof k K (both y yd) X w' (both y2 yd) := by
  refine (write_ok (k := k) (R := fun p s1 => ∃ s0 mt ps, Tkn d s s0 k l mt ps ∧ Tks d s0 s1 [p] ∧ p ≠ 0 ∧ p < 65536 ∧ rdOf s1 d p = some (told k mt)) (wn := 1 + wk k l) (M := 2 * (wk k l + 1)) ⟨_, rfl⟩ T E hEK (fun W1 hb => ?_) (fun W1 hb => ?_) (fun p s1 h => ?_) hle hm).mono ?_
  · have q := Sof.ofBel (K := K) (E := both y yd) hb 0
    have hl : s.left ≤ 4096 := by unfold Sto.left; have := T.bo.good.n5; omega
    exact wanted_node (hn.sof hit.slice q) (hit.sof q) (by omega) (wanted_kid false k)
  · have q := Sof.ofBel (K := K) (E := both y yd) hb 0
    refine (take_node (take_kid k) (T.bel hb) (hn.sof hit.slice q) (hit.sof q) hok hk (by omega) hhas hrep (by omega)).mono ?_
    rintro e w' ⟨p, s0, s1, y2, mt, ps, rfl, t1, ⟨t2, t3, t4, t5⟩, t6, t7⟩
    exact ⟨p, s1, y2, _, rfl, ⟨⟨s0, mt, ps, t1, t2, t3, t4, t5⟩, by rw [t1.len]; omega⟩, t6, t7⟩
  · obtain ⟨s0, mt, ps, t1, t2, t3, t4, t5⟩ := h
    obtain ⟨h1, h2⟩ := tks_has t1.tks t2
    refine ⟨.inr h1, fun hp => ?_, fun q => ?_⟩
    · have := hg p
      rw [h2] at this
      have h3 := List.count_pos_iff.2 hp
      have e0 : false.toNat = 0 := rfl
      omega
    · have := (t1.tks.trans t2).more q
      have := hg q
      omega
  · rintro e w' ⟨rfl, p, s1, s2, y2, m2, ⟨s0, mt, ps, t1, t2, t3, t4, t5⟩, h2, h3, h4, h5⟩
    exact ⟨rfl, p, s1, s2, y2, m2, ⟨mt, _, t1.top hhas t2 t3 t4 t5⟩, (t1.tks.trans t2).was, h2, h3, h4, h5⟩
theorem write_few {b mn spare : Nat} {iv : Value} {l : Its k} {lo hi : By} (T : TkIn B W sb db yd d K H N cb X s y m) (hn : NodeW X (Or2 H (both y yd)) N b k iv) (hit : ItsAt false X (Or2 H (both y yd)) N k iv l) (hle : s.left < 1 + wk k l + spare) (hs : 1 + wk k l + spare ≤ 1000000) :
    Calls Tryz.prog 68 #[.pointer (some ⟨cb, 0, none⟩), .pointer (some ⟨b, 0, none⟩), .int .i64 (spare : Int)] X fun e w' => e = .panicked full3 ∧ Below X.heap.size X w' :=
  write_full ⟨_, rfl⟩ T (fun W1 hb => wanted_node (hn.sof hit.slice (Sof.ofBel (K := K) (E := both y yd) hb 0)) (hit.sof (Sof.ofBel (K := K) (E := both y yd) hb 0)) (by omega) (wanted_kid false k)) hle hs
theorem write_nil (T : TkIn B W sb db yd d K H N cb X s y m) (E : Ed X base cb sb gv g) (hEK : ∀ b, EdB cb gv b → K b) (hg : ∀ q, g.count q ≤ (s.cur.now.has q).toNat) (hm : m + 2 + 2 * g.length < 90000000) :
    Calls Tryz.prog 68 #[.pointer (some ⟨cb, 0, none⟩), .pointer none, .int .i64 0] X fun e w' => e = .returned (.tuple #[]) ∧
      ∃ (s2 : Sto) (y2 : SLay) (m2 : Nat), Wrote d g s s2 0 ∧ TkIn B W sb db yd d K H N cb w' s2 y2 m2 ∧ m2 ≤ m + 2 + 2 * g.length ∧ Sof 0 K (both y yd) X w' (both y2 yd) := by
  refine (write_ok (k := 0) (R := fun p s1 => p = 0 ∧ s1 = s) (wn := 0) (spare := 0) (M := 0) ⟨_, rfl⟩ T E hEK (fun W1 hb => wanted_nil W1) (fun W1 hb => ?_) (fun p s1 h => ?_) (Nat.zero_le _) (by omega)).mono ?_
  · refine (take_nil W1 _).mono ?_
    rintro e w' ⟨rfl, rfl⟩
    exact ⟨0, s, y, m, rfl, ⟨⟨rfl, rfl⟩, Nat.le_refl _⟩, T.bel hb, Sof.ofBel (Below.refl _ _) 0⟩
  · obtain ⟨rfl, rfl⟩ := h
    refine ⟨.inl rfl, fun hp => ?_, hg⟩
    have := hg 0
    have h3 := List.count_pos_iff.2 hp
    rcases e : s1.cur.now.has 0 with _ | _
    · rw [e] at this
      have e0 : false.toNat = 0 := rfl
      omega
    · have := (T.bo.good.cur.has 0 e).1; omega
  · rintro e w' ⟨rfl, p, s1, s2, y2, m2, ⟨rfl, rfl⟩, h2, h3, h4, h5⟩
    exact ⟨rfl, s2, y2, m2, h2, h3, by omega, h5⟩
end
end Go.Proofs.YtcjokkjepgfinaaGreatDoor.Tr
