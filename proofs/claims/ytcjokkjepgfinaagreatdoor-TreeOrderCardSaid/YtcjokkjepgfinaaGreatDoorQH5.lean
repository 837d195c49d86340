import Derived.Test.YtcjokkjepgfinaaGreatDoorQSN
import Derived.Test.YtcjokkjepgfinaaGreatDoorQG9
import Derived.Lib.Bytealg
import Derived.Test.YtcjokkjepgfinaaGreatDoorQStr
set_option linter.unusedVariables false
set_option linter.unusedSimpArgs false
namespace Go.Proofs.YtcjokkjepgfinaaGreatDoor.Sk
set_option maxRecDepth 8000
open Go.RowKit Mem Go.ChangeMaps
open Dk (cod elem cod_inj elem_mk elem_inv key key_inj wf_key keyed3 MapIs Fr ptr hmf cell_alloc cell_alloc_new zero42 IsD Dsk Lay drewN_cell Kp ref_zero newD newY)
structure SameK (s s' : Sto) : Prop where
  n : s'.n = s.n
  kept : s'.kept = s.kept
  force : s'.inForce = s.inForce
  stamp : s'.stamp = s.stamp
  dead : s'.dead = s.dead
theorem SameK.refl (s : Sto) : SameK s s := ⟨rfl, rfl, rfl, rfl, rfl⟩
theorem SameK.trans {s t u : Sto} (h : SameK s t) (k : SameK t u) : SameK s u := ⟨k.n.trans h.n, k.kept.trans h.kept, k.force.trans h.force, k.stamp.trans h.stamp, k.dead.trans h.dead⟩
structure Quiet (s : Sto) (d : Dsk) : Prop where
  liv : Liv d
  wait : ∀ j, d.wait j = none
  sd : s.dead = false
  nn : s.n = d.n
  good : SGood s
  lkK : (lkTo d d.n 2).kept = s.kept
  lkF : (lkTo d d.n 2).force = s.inForce
  lkS : (lkTo d d.n 2).stamp = s.stamp
  whole : ∀ p, s.kept.has p = true → Frm.whole (d.page p) p 2
theorem Quiet.act {s s' : Sto} {d : Dsk} (h : Quiet s d) (k : SameK s s') (hg : SGood s') : Quiet s' d :=
  { liv := h.liv, wait := h.wait, sd := k.dead.trans h.sd, nn := k.n.trans h.nn, good := hg, lkK := h.lkK.trans k.kept.symm, lkF := h.lkF.trans k.force.symm, lkS := h.lkS.trans k.stamp.symm
    whole := fun p hp => h.whole p (by rw [← k.kept]; exact hp) }
theorem Quiet.gone {s : Sto} {d : Dsk} (h : Quiet s d) : gone s d = false := by unfold Sk.gone; rw [h.sd, h.liv.dead]; rfl
theorem Quiet.reads {s : Sto} {d : Dsk} (h : Quiet s d) (p : Nat) (hp : s.cur.now.has p = true) : (rdOf s d p).isSome = true := by
  unfold rdOf
  rcases hf : s.cur.fresh p with _ | l
  · have hk : s.kept.has p = true := by
      rcases hk : s.kept.has p with _ | _
      · exact absurd hf ((h.good.cur.fresh p).2 ⟨hp, hk⟩)
      · rfl
    show (if Frm.whole (d.page p) p 2 then some (Frm.held (d.page p)) else none).isSome = true
    rw [if_pos (h.whole p hk)]; rfl
  · rfl
theorem Quiet.commit {s : Sto} {d : Dsk} (h : Quiet s d) (hs : s.stamp < 18446744073709551000) :
    ansC s d = 0 ∧ Quiet (stoC s d) (diskC s d) ∧ (stoC s d).cur = Vw.base s.cur.now ∧ (stoC s d).kept = s.cur.now ∧ (stoC s d).us = [] ∧ (stoC s d).stamp ≤ s.stamp + 1 ∧ (stoC s d).n = s.n ∧ ∀ p, s.cur.now.has p = true → rdOf (stoC s d) (diskC s d) p = rdOf s d p := by
  by_cases hc : s.changed = true
  · obtain ⟨e1, e2, e3⟩ := com_live h.liv h.sd h.good h.nn (by omega) hc
    have hw := h.liv.write h.good h.nn (by omega)
    have hn4 := h.good.n4
    have hn5 := h.good.n5
    have hhd : s.head < 2 := by unfold Sto.head; omega
    have hpg : ∀ p, s.cur.now.has p = true → (writeD s d).2.page p = match s.cur.fresh p with | some l => Frm.frame p 2 (s.stamp + 1) l | none => d.page p := fun p hp => by
      rw [hw.2.2.2 p]
      have h2 := (h.good.cur.has p hp).1
      rw [if_neg (by omega)]
      rcases hf : s.cur.fresh p with _ | l
      · rfl
      · show (if true = true then _ else _) = _
        rw [if_pos rfl]; unfold pageF; rw [hf]; rfl
    have hlp : ∀ p l, s.cur.fresh p = some l → l.length ≤ 4011 := h.good.cur.len
    have hwh : ∀ p, s.cur.now.has p = true → Frm.whole ((writeD s d).2.page p) p 2 := fun p hp => by
      rw [hpg p hp]
      have h2 := h.good.cur.has p hp
      rcases hf : s.cur.fresh p with _ | l
      · refine h.whole p ?_
        rcases hk : s.kept.has p with _ | _
        · exact absurd hf ((h.good.cur.fresh p).2 ⟨hp, hk⟩)
        · rfl
      · exact (Frm.whole_frame p 2 (s.stamp + 1) p 2 l (hlp p l hf) (by omega) (by omega) (by omega) (by omega) (by omega)).2 ⟨rfl, rfl⟩
    have hlk := lk_commit (d := d) (d' := (writeD s d).2) (n := d.n) (S := s.stamp) (h := s.head) (t := s.cur.now) h.lkS hhd (by rw [hw.2.2.2, if_pos rfl]; unfold headF; rw [h.nn]) (by
        rw [hw.2.2.2, if_neg (by omega)]
        have : s.cur.fresh (1 - s.head) = none := by
          rcases hf : s.cur.fresh (1 - s.head) with _ | l
          · rfl
          · have := (h.good.cur.fresh (1 - s.head)).1 (by rw [hf]; simp)
            have := (h.good.cur.has _ this.1).1
            omega
        rw [this]; rfl) (by rw [← h.nn]; exact h.good.cur.sta) (by rw [← h.nn]; exact hn4) (by rw [← h.nn]; exact hn5) (by omega)
    rw [e1, e2, e3]
    have hnd : (writeD s d).2.n = d.n := writeD_n s d
    refine ⟨rfl, ⟨hw.2.1, hw.2.2.1, h.sd, h.nn.trans hnd.symm, begin_good (wrote_good h.good (by omega)) _ h.good.cur.sta, ?_, ?_, ?_, hwh⟩, rfl, rfl, rfl, Nat.le_refl _, rfl, fun p hp => ?_⟩
    · rw [hnd, hlk]; rfl
    · rw [hnd, hlk]; rfl
    · rw [hnd, hlk]; rfl
    · unfold rdOf
      show (if Frm.whole ((writeD s d).2.page p) p 2 then some (Frm.held ((writeD s d).2.page p)) else none) = _
      rw [if_pos (hwh p hp), hpg p hp]
      rcases hf : s.cur.fresh p with _ | l
      · have hk : s.kept.has p = true := by
          rcases hk : s.kept.has p with _ | _
          · exact absurd hf ((h.good.cur.fresh p).2 ⟨hp, hk⟩)
          · rfl
        show some (Frm.held (d.page p)) = if Frm.whole (d.page p) p 2 then some (Frm.held (d.page p)) else none
        rw [if_pos (h.whole p hk)]
      · show some (Frm.held (Frm.frame p 2 (s.stamp + 1) l)) = some l
        rw [Frm.held_frame _ _ _ _ (hlp p l hf)]
  · have hc' : s.changed = false := by simpa using hc
    have hcur := h.good.same hc'
    have e : comA s d = 0 ∧ comD s d = d ∧ comS s d = s.begin s.cur.now := by
      unfold comA comD comS
      rw [if_neg hc, if_neg hc, if_neg hc]; exact ⟨rfl, rfl, rfl⟩
    have e1 : ansC s d = 0 := by unfold ansC; rw [h.gone, e.1]; rfl
    have e2 : stoC s d = s.begin s.cur.now := by unfold stoC; rw [h.gone, e.1, e.2.2]; rfl
    have e3 : diskC s d = d := by unfold diskC; rw [h.gone, e.2.1]; rfl
    rw [e1, e2, e3]
    have ek : s.cur.now = s.kept := by rw [hcur]; rfl
    refine ⟨rfl, h.act ⟨rfl, by rw [ek]; rfl, rfl, rfl, rfl⟩ (begin_good h.good _ h.good.cur.sta), rfl, rfl, rfl, Nat.le_succ _, rfl, fun p hp => ?_⟩
    unfold rdOf
    show (if Frm.whole (d.page p) p 2 then some (Frm.held (d.page p)) else none) = _
    rw [hcur]; rfl
end Go.Proofs.YtcjokkjepgfinaaGreatDoor.Sk
namespace Go.Proofs.YtcjokkjepgfinaaGreatDoor.Tr
set_option maxRecDepth 8000
open Go.RowKit Mem Sk
open Dk (Fr)
def RdF (w : World) (F : Nat → Prop) (v : Value) (l : By) : Prop :=
  ∃ A c, v = .slice A l.length c ∧ l.length ≤ c ∧ c ≤ maxLen ∧ (A = none → c = 0) ∧ (0 < l.length → ∃ b o, A = some ⟨b, o, none⟩ ∧ b < w.heap.size ∧ ¬ F b ∧ ∀ i (h : i < l.length), w.cell? ⟨b, o + i, none⟩ = some (.int .u8 (l[i].toNat : Int)))
def Slots (w : World) (F : Nat → Prop) (N : Nat) (v : Value) (n : Nat) (P : Nat → Value → Value → Value → Prop) : Prop :=
  ∃ A c, v = .slice A n c ∧ n ≤ c ∧ c ≤ maxLen ∧ (A = none → c = 0) ∧ (0 < n → ∃ b o, A = some ⟨b, o, none⟩ ∧ b < w.heap.size ∧ ¬ F b ∧ N ≤ b ∧ (∀ j, w.frozen? ⟨b, j, none⟩ = false) ∧
    ∀ i, i < n → ∃ kv rv mv, w.cell? ⟨b, o + i * 3, none⟩ = some kv ∧ w.cell? ⟨b, o + i * 3 + 1, none⟩ = some rv ∧ w.cell? ⟨b, o + i * 3 + 2, none⟩ = some mv ∧ P i kv rv mv)
structure NodeW (w : World) (F : Nat → Prop) (N b k : Nat) (iv : Value) : Prop where
  lt : b < w.heap.size
  out : ¬ F b
  low : N ≤ b
  c0 : w.cell? ⟨b, 0, none⟩ = some (.int .i64 0)
  c1 : w.cell? ⟨b, 1, none⟩ = some (.int .i64 (k : Int))
  c2 : w.cell? ⟨b, 2, none⟩ = some (.slice none 0 0)
  c3 : w.cell? ⟨b, 3, none⟩ = some (.slice none 0 0)
  c4 : w.cell? ⟨b, 4, none⟩ = some iv
  c5 : w.cell? ⟨b, 5, none⟩ = none
def Ent (s : Bool) (w : World) (F : Nat → Prop) (N : Nat) : (k : Nat) → Kid k → Value → Value → Prop
  | 0, x, rv, mv => RdF w F rv x ∧ mv = .pointer none
  | k + 1, t, rv, mv => (pg t ≠ none ∧ RdF w F rv (dig (pg t)) ∧ mv = .pointer none) ∨
      (pg t = none ∧ (∃ A n c, rv = .slice A n c) ∧ (s = true → RdF w F rv [0, 0]) ∧ ∃ b iv, mv = .pointer (some ⟨b, 0, none⟩) ∧ NodeW w F N b k iv ∧
        Slots w F N iv (sub t).length fun i kv rv mv => ∃ x, (sub t)[i]? = some x ∧ RdF w F kv x.1 ∧ Ent s w F N k x.2 rv mv)
def ItsAt (s : Bool) (w : World) (F : Nat → Prop) (N k : Nat) (v : Value) (l : Its k) : Prop :=
  Slots w F N v l.length fun i kv rv mv => ∃ x, l[i]? = some x ∧ RdF w F kv x.1 ∧ Ent s w F N k x.2 rv mv
def KR (w : World) (F : Nat → Prop) (N : Nat) (v : Value) (l : List It) : Prop :=
  Slots w F N v l.length fun i kv rv mv => ∃ x, l[i]? = some x ∧ RdF w F kv x.1 ∧ RdF w F rv x.2 ∧ ∃ q, mv = .pointer q
section
variable {w w' : World} {F G : Nat → Prop} {N : Nat} {v : Value}
theorem RdF.rd {l : By} (h : RdF w F v l) : ∃ A c, v = .slice A l.length c ∧ Rd w w.heap.size A c l := by
  obtain ⟨A, c, e, h1, h2, h3, h4⟩ := h
  exact ⟨A, c, e, h1, h2, h3, fun hn => by
    obtain ⟨b, o, e2, hb, _, hc⟩ := h4 hn
    exact ⟨b, o, e2, hb, hc⟩⟩
theorem RdF.nil (w : World) (F : Nat → Prop) : RdF w F (.slice none 0 0) [] := ⟨none, 0, rfl, Nat.le_refl _, by unfold maxLen; omega, fun _ => rfl, fun h => absurd h (by simp)⟩
theorem RdF.own {base : Nat} {l : By} (h : Mem.Own 5 w base v l) (hF : ∀ k, F k → k < base) : RdF w F v l := by
  have hlt := World.ownsRow.lt h
  obtain ⟨A, c, rfl, hr, _, _⟩ := h.form
  obtain ⟨h1, h2, h3, h4⟩ := hr
  exact ⟨A, c, rfl, h1, h2, h3, fun hn => by
    obtain ⟨b, o, e, hb, hc⟩ := h4 hn
    subst e
    have := hlt b rfl
    exact ⟨b, o, rfl, hb, fun hf => by have := hF b hf; omega, hc⟩⟩
theorem RdF.keep {l : By} (h : RdF w F v l) (hs : w.heap.size ≤ w'.heap.size) (hk : ∀ b, b < w.heap.size → ¬ F b → ¬ G b ∧ ∀ j x, w.cell? ⟨b, j, none⟩ = some (.int .u8 x) → w'.cell? ⟨b, j, none⟩ = some (.int .u8 x)) : RdF w' G v l := by
  obtain ⟨A, c, e, h1, h2, h3, h4⟩ := h
  exact ⟨A, c, e, h1, h2, h3, fun hn => by
    obtain ⟨b, o, e2, hb, hf, hc⟩ := h4 hn
    exact ⟨b, o, e2, Nat.lt_of_lt_of_le hb hs, (hk b hb hf).1, fun i hi => (hk b hb hf).2 _ _ (hc i hi)⟩⟩
theorem RdF.kf {l : By} (h : RdF w F v l) (k : Kf F w w' G) : RdF w' G v l :=
  h.keep k.fr.size fun b hb hf => ⟨(k.free hb hf).1, fun j x e => (World.cell?_of_block (k.free hb hf).2).trans e⟩
theorem RdF.mono {l : By} (h : RdF w F v l) (hG : ∀ b, G b → F b) : RdF w G v l :=
  h.keep (Nat.le_refl _) fun b hb hf => ⟨fun g => hf (hG b g), fun _ _ e => e⟩
theorem Slots.imp {n : Nat} {P Q : Nat → Value → Value → Value → Prop} (h : Slots w F N v n P) (hPQ : ∀ i kv rv mv, i < n → P i kv rv mv → Q i kv rv mv) : Slots w F N v n Q := by
  obtain ⟨A, c, e, h1, h2, h3, h4⟩ := h
  exact ⟨A, c, e, h1, h2, h3, fun hn => by
    obtain ⟨b, o, e2, hb, hf, hN, hz, hc⟩ := h4 hn
    exact ⟨b, o, e2, hb, hf, hN, hz, fun i hi => by
      obtain ⟨kv, rv, mv, c1, c2, c3, p⟩ := hc i hi
      exact ⟨kv, rv, mv, c1, c2, c3, hPQ _ _ _ _ hi p⟩⟩⟩
theorem Slots.kf {n : Nat} {P Q : Nat → Value → Value → Value → Prop} (h : Slots w F N v n P) (k : Kf F w w' G) (hPQ : ∀ i kv rv mv, i < n → P i kv rv mv → Q i kv rv mv) : Slots w' G N v n Q := by
  obtain ⟨A, c, e, h1, h2, h3, h4⟩ := h
  exact ⟨A, c, e, h1, h2, h3, fun hn => by
    obtain ⟨b, o, e2, hb, hf, hN, hz, hc⟩ := h4 hn
    have hh := (k.free hb hf).2
    exact ⟨b, o, e2, Nat.lt_of_lt_of_le hb k.fr.size, (k.free hb hf).1, hN, fun j => (frozen_of_block hh j).trans (hz j), fun i hi => by
      obtain ⟨kv, rv, mv, c1, c2, c3, p⟩ := hc i hi
      exact ⟨kv, rv, mv, (World.cell?_of_block hh).trans c1, (World.cell?_of_block hh).trans c2, (World.cell?_of_block hh).trans c3, hPQ _ _ _ _ hi p⟩⟩⟩
theorem Slots.mono {n : Nat} {P Q : Nat → Value → Value → Value → Prop} (h : Slots w F N v n P) (hG : ∀ b, G b → F b) (hPQ : ∀ i kv rv mv, i < n → P i kv rv mv → Q i kv rv mv) : Slots w G N v n Q := by
  obtain ⟨A, c, e, h1, h2, h3, h4⟩ := h
  exact ⟨A, c, e, h1, h2, h3, fun hn => by
    obtain ⟨b, o, e2, hb, hf, hN, hz, hc⟩ := h4 hn
    exact ⟨b, o, e2, hb, fun g => hf (hG b g), hN, hz, fun i hi => by
      obtain ⟨kv, rv, mv, c1, c2, c3, p⟩ := hc i hi
      exact ⟨kv, rv, mv, c1, c2, c3, hPQ _ _ _ _ hi p⟩⟩⟩
theorem NodeW.kf {b k : Nat} {iv : Value} (h : NodeW w F N b k iv) (q : Kf F w w' G) : NodeW w' G N b k iv := by
  have hh := (q.free h.lt h.out).2
  exact ⟨Nat.lt_of_lt_of_le h.lt q.fr.size, (q.free h.lt h.out).1, h.low, (World.cell?_of_block hh).trans h.c0, (World.cell?_of_block hh).trans h.c1, (World.cell?_of_block hh).trans h.c2, (World.cell?_of_block hh).trans h.c3, (World.cell?_of_block hh).trans h.c4, (World.cell?_of_block hh).trans h.c5⟩
theorem Ent.kf {s : Bool} {k : Nat} {x : Kid k} {rv mv : Value} (h : Ent s w F N k x rv mv) (q : Kf F w w' G) : Ent s w' G N k x rv mv := by
  induction k generalizing rv mv with
  | zero => exact ⟨h.1.kf q, h.2⟩
  | succ k ih =>
    rcases h with ⟨h1, h2, h3⟩ | ⟨h1, h2, h3, b, iv, h4, h5, h6⟩
    · exact .inl ⟨h1, h2.kf q, h3⟩
    · refine .inr ⟨h1, h2, fun e => (h3 e).kf q, b, iv, h4, h5.kf q, h6.kf q ?_⟩
      rintro i kv rv mv _ ⟨y, h7, h8, h9⟩
      exact ⟨y, h7, h8.kf q, ih h9⟩
theorem ItsAt.kf {s : Bool} {k : Nat} {l : Its k} (h : ItsAt s w F N k v l) (q : Kf F w w' G) : ItsAt s w' G N k v l :=
  Slots.kf h q fun i kv rv mv _ ⟨y, h7, h8, h9⟩ => ⟨y, h7, h8.kf q, h9.kf q⟩
theorem KR.kf {l : List It} (h : KR w F N v l) (q : Kf F w w' G) : KR w' G N v l :=
  Slots.kf h q fun i kv rv mv _ ⟨y, h7, h8, h9, h10⟩ => ⟨y, h7, h8.kf q, h9.kf q, h10⟩
theorem KR.mono {l : List It} (h : KR w F N v l) (hG : ∀ b, G b → F b) : KR w G N v l :=
  Slots.mono h hG fun i kv rv mv _ ⟨y, h7, h8, h9, h10⟩ => ⟨y, h7, h8.mono hG, h9.mono hG, h10⟩
theorem Ent.rd {k : Nat} {x : By × Kid k} {rv mv : Value} (h : Ent true w F N k x.2 rv mv) : RdF w F rv (it x).2 := by
  cases k with
  | zero => exact h.1
  | succ k =>
    rcases h with ⟨_, h2, _⟩ | ⟨h1, _, h3, _⟩
    · exact h2
    · show RdF w F rv (dig (pg x.2))
      rw [h1]; exact h3 rfl
theorem Ent.ptr {s : Bool} {k : Nat} {x : Kid k} {rv mv : Value} (h : Ent s w F N k x rv mv) : ∃ q, mv = .pointer q := by
  cases k with
  | zero => exact ⟨_, h.2⟩
  | succ k =>
    rcases h with ⟨_, _, h3⟩ | ⟨_, _, _, b, iv, h4, _⟩
    · exact ⟨_, h3⟩
    · exact ⟨_, h4⟩
theorem ItsAt.kr {k : Nat} {l : Its k} (h : ItsAt true w F N k v l) : KR w F N v (its l) := by
  unfold KR
  rw [its_length]
  refine Slots.imp h fun i kv rv mv _ ⟨y, h7, h8, h9⟩ => ⟨it y, ?_, h8, h9.rd, h9.ptr⟩
  unfold its
  rw [List.getElem?_map, h7]; rfl
theorem Ent.weak {s : Bool} {k : Nat} {x : Kid k} {rv mv : Value} (h : Ent s w F N k x rv mv) : Ent false w F N k x rv mv := by
  induction k generalizing rv mv with
  | zero => exact h
  | succ k ih =>
    rcases h with h | ⟨h1, h2, h3, b, iv, h4, h5, h6⟩
    · exact .inl h
    · refine .inr ⟨h1, h2, fun e => by (cases e), b, iv, h4, h5, h6.imp ?_⟩
      rintro i kv rv mv _ ⟨y, h7, h8, h9⟩
      exact ⟨y, h7, h8, ih h9⟩
theorem ItsAt.weak {s : Bool} {k : Nat} {l : Its k} (h : ItsAt s w F N k v l) : ItsAt false w F N k v l :=
  Slots.imp h fun i kv rv mv _ ⟨y, h7, h8, h9⟩ => ⟨y, h7, h8, h9.weak⟩
theorem ItsAt.ofOld {s : Bool} {k : Nat} {l : Its k} (h : Slots w F N v l.length fun i kv rv mv => ∃ x, (its l)[i]? = some x ∧ RdF w F kv x.1 ∧ RdF w F rv x.2 ∧ mv = .pointer none) (ho : Old k l) : ItsAt s w F N k v l := by
  refine Slots.imp h fun i kv rv mv hi ⟨x, h7, h8, h9, h10⟩ => ?_
  unfold its at h7
  rw [List.getElem?_map] at h7
  rcases hy : l[i]? with _ | y
  · rw [hy] at h7; cases h7
  · rw [hy] at h7
    injection h7 with h7
    subst h7
    refine ⟨y, rfl, h8, ?_⟩
    cases k with
    | zero => exact ⟨h9, h10⟩
    | succ k =>
      obtain ⟨⟨p, hp, _⟩, _⟩ := ho y (List.mem_of_getElem? hy)
      exact .inl ⟨by rw [hp]; simp, h9, h10⟩
theorem KR.form {l : List It} (h : KR w F N v l) : ∃ A c, v = .slice A l.length c ∧ l.length ≤ c ∧ c ≤ maxLen := by
  obtain ⟨A, c, e, h1, h2, _⟩ := h
  exact ⟨A, c, e, h1, h2⟩
theorem KR.at {l : List It} {A : Option Addr} {n c : Nat} (h : KR w F N (.slice A n c) l) {i : Nat} (hi : i < l.length) :
    ∃ b o A1 c1 A2 c2 q, A = some ⟨b, o, none⟩ ∧ w.cell? ⟨b, o + i * 3, none⟩ = some (.slice A1 l[i].1.length c1) ∧ w.cell? ⟨b, o + i * 3 + 1, none⟩ = some (.slice A2 l[i].2.length c2) ∧ w.cell? ⟨b, o + i * 3 + 2, none⟩ = some (.pointer q) ∧
      Rd w w.heap.size A1 c1 l[i].1 ∧ Rd w w.heap.size A2 c2 l[i].2 ∧ RdF w F (.slice A1 l[i].1.length c1) l[i].1 ∧ RdF w F (.slice A2 l[i].2.length c2) l[i].2 := by
  obtain ⟨A', c', e, h1, h2, h3, h4⟩ := h
  injection e with e1 e2 e3
  subst e1
  obtain ⟨b, o, rfl, hb, hf, hN, hz, hc⟩ := h4 (by omega)
  obtain ⟨kv, rv, mv, g1, g2, g3, x, hx, r1, r2, q, rfl⟩ := hc i hi
  obtain ⟨hlt, rfl⟩ := List.getElem?_eq_some_iff.1 hx
  obtain ⟨A1, c1, rfl, d1⟩ := r1.rd
  obtain ⟨A2, c2, rfl, d2⟩ := r2.rd
  exact ⟨b, o, A1, c1, A2, c2, q, rfl, g1, g2, g3, d1, d2, r1, r2⟩
end
def cmpB (a b : By) : Int := if blt a b then -1 else if a = b then 0 else 1
theorem cmpB_eq : ∀ (a b : By), Lib.compareBytes a b = cmpB a b
  | [], [] => rfl
  | [], _ :: _ => rfl
  | _ :: _, [] => rfl
  | x :: a, y :: b => by
    unfold Lib.compareBytes
    have ih := cmpB_eq a b
    have hxy : ∀ z u : UInt8, z < u ↔ z.toNat < u.toNat := fun z u => UInt8.lt_iff_toNat_lt
    by_cases h : x < y
    · rw [if_pos h]
      unfold cmpB
      rw [if_pos ((blt_cons x y a b).2 (.inl h))]
    · rw [if_neg h]
      by_cases h2 : y < x
      · rw [if_pos h2]
        unfold cmpB
        have hne : x ≠ y := fun e => by rw [e] at h2; exact absurd h2 (by rw [hxy]; omega)
        rw [if_neg (fun e => ((blt_cons x y a b).1 e).elim h fun e => hne e.1), if_neg (fun e => by injection e with e1 _; exact hne e1)]
      · rw [if_neg h2, ih]
        have e : x = y := UInt8.toNat_inj.1 (by rw [hxy] at h h2; omega)
        subst e
        unfold cmpB
        have hb : blt (x :: a) (x :: b) = blt a b := by
          rcases hb : blt a b with _ | _
          · rcases hc : blt (x :: a) (x :: b) with _ | _
            · rfl
            · rcases (blt_cons x x a b).1 hc with e | e
              · exact absurd e h
              · rw [hb] at e; cases e.2
          · exact (blt_cons x x a b).2 (.inr ⟨rfl, hb⟩)
        rw [hb]
        simp
theorem run_loadB {P : Program} {w : World} : ∀ (l : By) (a : Addr) (acc : ByteArray), (∀ j x, l[j]? = some x → w.cell? (a.add j) = some (.int .u8 (x.toNat : Int))) →
    (Extern.Bytes.loadBytes a l.length acc).run P w = .ok ⟨acc.data ++ l.toArray⟩ w
  | [], a, acc, _ => by simp [Extern.Bytes.loadBytes]
  | x :: l, a, acc, h => by
    have h0 : w.cell? a = some (.int .u8 (x.toNat : Int)) := by
      have := h 0 x rfl
      simpa [Addr.add] using this
    have ih := run_loadB (P := P) l (a.add 1) (acc.push x) (fun j y hy => by
      have := h (j + 1) y (by simpa using hy)
      have e : (a.add 1).add j = a.add (j + 1) := by
        unfold Addr.add
        by_cases hj : j = 0
        · subst hj; simp
        · simp [hj]; omega
      rw [e]; exact this)
    have hx : ((x.toNat : Int).toNat).toUInt8 = x := by simp
    simp only [List.length_cons, Extern.Bytes.loadBytes, Sem.run_bind, run_load, h0, Result.andThen, hx]
    rw [ih]
    congr 1
    apply ByteArray.ext
    simp [ByteArray.push]
theorem run_bytesB {P : Program} {w : World} {B : Nat} {A : Option Addr} {c : Nat} {l : By} (h : Rd w B A c l) : (Extern.Bytes.bytesOf (.slice A l.length c)).run P w = .ok ⟨l.toArray⟩ w := by
  rcases A with _ | a
  · have hc := h.2.2.1 rfl
    have hl : l = [] := List.eq_nil_of_length_eq_zero (by have := h.1; omega)
    subst hl; rfl
  · have := run_loadB (P := P) (w := w) l a .empty (fun j x hj => by
      obtain ⟨hlt, e⟩ := List.getElem?_eq_some_iff.1 hj
      obtain ⟨b, o, e2, _, hc⟩ := h.2.2.2 (by omega)
      injection e2 with e2
      subst e2
      rw [show (⟨b, o, none⟩ : Addr).add j = ⟨b, o + j, none⟩ by unfold Addr.add; split <;> simp_all, hc j hlt, e])
    show (Extern.Bytes.loadBytes a l.length .empty).run P w = _
    rw [this]; congr 1; apply ByteArray.ext; simp
section
variable {w : World} {B1 B2 : Nat} {A1 A2 : Option Addr} {c1 c2 : Nat} {a b : By}
theorem run_compare (h1 : Rd w B1 A1 c1 a) (h2 : Rd w B2 A2 c2 b) : (callFunc 89 #[.slice A1 a.length c1, .slice A2 b.length c2]).run Tryz.prog w = .ok (.value (.int .i64 (cmpB a b))) w := by
  rw [run_callFunc_extern Tryz.func89 (by kernel_rfl) (by kernel_rfl) (by kernel_rfl) (e := Extern.BytealgCompare.compare) (by kernel_rfl)]
  have hc : (Extern.BytealgCompare.compare #[.slice A1 a.length c1, .slice A2 b.length c2]).run Tryz.prog w = .ok (.int .i64 (cmpB a b)) w := by
    change ((Extern.Bytes.bytesOf (.slice A1 a.length c1) >>= fun x => Extern.Bytes.bytesOf (.slice A2 b.length c2) >>= fun y => pure (goInt (Extern.BytealgCompare.cmp x y)) : Sem Value)).run _ w = _
    rw [Sem.run_bind, run_bytesB h1]
    simp only [Result.andThen]
    rw [Sem.run_bind, run_bytesB h2]
    simp only [Result.andThen, Lib.cmp_eq]
    rw [cmpB_eq]
    rfl
  rw [hc]; rfl
theorem Compare_any (h1 : Rd w B1 A1 c1 a) (h2 : Rd w B2 A2 c2 b) :
    Calls Tryz.prog 62 #[.slice A1 a.length c1, .slice A2 b.length c2] w fun e w' => e = .returned (.int .i64 (cmpB a b)) ∧ w' = w := by
  have hr := run_compare h1 h2
  clear h1 h2
  go_enter Tryz.func62, Tryz.ntmps62
  go_wp2
  go_ret
  exact ⟨rfl, rfl⟩
theorem Equal_any (h1 : Rd w B1 A1 c1 a) (h2 : Rd w B2 A2 c2 b) :
    Calls Tryz.prog 34 #[.slice A1 a.length c1, .slice A2 b.length c2] w fun e w' => e = .returned (.bool (decide (a = b))) ∧ w' = w := by
  have hr1 := run_str_rd w h1
  have hr2 := run_str_rd w h2
  have hb : ((str a).toList == (str b).toList) = decide (a = b) := by rw [str_toList, str_toList]; by_cases e : a = b <;> simp [e]
  clear h1 h2
  go_enter Tryz.func34, Tryz.ntmps34
  go_wp2
  go_ret
  exact ⟨rfl, rfl⟩
end
theorem cmp_lt (a b : By) : (cmpB a b < 0) ↔ blt a b = true := by
  unfold cmpB
  rcases h : blt a b with _ | _
  · simp; split <;> omega
  · simp
theorem cmp_le (a b : By) : (cmpB a b ≤ 0) ↔ blt b a = false := by
  unfold cmpB
  rcases h : blt a b with _ | _
  · rw [if_neg (by simp)]
    by_cases e : a = b
    · subst e; rw [if_pos rfl, h]; simp
    · rw [if_neg e]
      have : blt b a = true := ((blt_tri a b).resolve_left (by rw [h]; simp)).resolve_left e
      rw [this]; simp
  · rw [if_pos rfl, blt_asymm h]; simp
theorem cmp_zero (a b : By) : (cmpB a b = 0) ↔ a = b := by
  unfold cmpB
  rcases h : blt a b with _ | _
  · rw [if_neg (by simp)]
    by_cases e : a = b
    · rw [if_pos e]; simp [e]
    · rw [if_neg e]; simp [e]
  · rw [if_pos rfl]
    have := blt_ne h
    simp [this]
theorem box1 (w : World) (o : Obj) : Below w.heap.size w (w.alloc o) := Below.alloc (Below.refl _ w) (Nat.le_refl _) o
section
variable {w : World} {A0 A1 A2 A3 A4 : Option Addr} {n0 c0 c1 c2 c3 c4 : Nat} {key fr tu lo hi : By}
set_option maxHeartbeats 1000000 in
theorem ends_any (hk : Rd w w.heap.size A1 c1 key) (ht : Rd w w.heap.size A2 c2 tu) :
    Calls Tryz.prog 99 #[.agg #[.slice A0 n0 c0, .slice A2 tu.length c2], .slice A1 key.length c1] w fun e w' => e = .returned (.bool (ends key tu)) ∧ Below w.heap.size w w' := by
  by_cases h0 : tu = []
  · subst h0
    clear ht
    go_enter Tryz.func99, Tryz.ntmps99
    go_wp2
    go_ret
    exact ⟨rfl, Below.alloc (Below.refl _ w) (Nat.le_refl _) _⟩
  · have hl : 0 < tu.length := List.length_pos_iff.2 h0
    have hl' : (((tu.length : Nat) : Int) == 0) = false := by simp; omega
    have he : ends key tu = blt key tu := by unfold ends; cases tu with
      | nil => exact absurd rfl h0
      | cons x l => rfl
    rw [he]
    have C := Lib.hid (fun W (hb : Below w.heap.size w W) => Compare_any (w := W) (hk.below hb) (ht.below hb))
    clear he h0 hl hk ht
    by_cases hb : blt key tu = true
    · have HB := Lib.hid hb
      have hc : cmpB key tu < 0 := (cmp_lt key tu).2 hb
      rw [hb]
      clear hb
      generalize cmpB key tu = z at *
      generalize tu.length = nt at *
      go_enter Tryz.func99, Tryz.ntmps99
      go_wp2_with (go_at_call 62; refine (C.out _ (Below.alloc (Below.refl _ w) (Nat.le_refl _) _)).mono ?_; rintro e w1 ⟨rfl, rfl⟩)
      go_ret
      exact ⟨rfl, Below.alloc (Below.refl _ w) (Nat.le_refl _) _⟩
    · have HB := Lib.hid hb
      have hc : ¬ cmpB key tu < 0 := fun e => hb ((cmp_lt key tu).1 e)
      have hd : decide (cmpB key tu < 0) = false := decide_eq_false hc
      rw [show blt key tu = false by simpa using hb]
      clear hb
      generalize cmpB key tu = z at *
      generalize tu.length = nt at *
      go_enter Tryz.func99, Tryz.ntmps99
      go_wp2_with (go_at_call 62; refine (C.out _ (Below.alloc (Below.refl _ w) (Nat.le_refl _) _)).mono ?_; rintro e w1 ⟨rfl, rfl⟩)
      go_ret
      exact ⟨rfl, Below.alloc (Below.refl _ w) (Nat.le_refl _) _⟩
set_option maxHeartbeats 1000000 in
theorem has_span (hf : Rd w w.heap.size A1 c1 fr) (ht : Rd w w.heap.size A2 c2 tu) (hk : Rd w w.heap.size A3 c3 key) :
    Calls Tryz.prog 72 #[.agg #[.slice A1 fr.length c1, .slice A2 tu.length c2], .slice A3 key.length c3] w fun e w' => e = .returned (.bool (inS fr tu key)) ∧ Below w.heap.size w w' := by
  have he : inS fr tu key = (!blt key fr && ends key tu) := rfl
  rw [he]
  have C := Lib.hid (fun W (hb : Below w.heap.size w W) => Compare_any (w := W) (hf.below hb) (hk.below hb))
  have E := Lib.hid (fun W (hb : Below w.heap.size w W) => ends_any (w := W) (A0 := A1) (n0 := fr.length) (c0 := c1) ((hk.below hb).more hb.size) ((ht.below hb).more hb.size))
  clear he hf hk ht
  have B0 := Lib.hid (box1 w (.cells #[.slice A1 fr.length c1, .slice A2 tu.length c2] 72))
  by_cases hb : blt key fr = false
  · have hc : cmpB fr key ≤ 0 := (cmp_le fr key).2 hb
    rw [hb]
    clear hb
    generalize cmpB fr key = z at *
    generalize ends key tu = en at *
    generalize fr.length = nf at *
    generalize tu.length = nt at *
    go_enter Tryz.func72, Tryz.ntmps72
    go_wp2_with (first
      | (go_at_call 99; refine (E.out _ B0.out).mono ?_; rintro e w1 ⟨rfl, hb1⟩; have B1 := Lib.hid hb1; clear hb1)
      | (go_at_call 62; refine (C.out _ B0.out).mono ?_; rintro e w1 ⟨rfl, rfl⟩))
    go_ret
    exact ⟨rfl, B0.out.trans (B1.out.mono B0.out.size)⟩
  · have hc : ¬ cmpB fr key ≤ 0 := fun e => hb ((cmp_le fr key).1 e)
    have hd : decide (cmpB fr key ≤ 0) = false := decide_eq_false hc
    rw [show blt key fr = true by simpa using hb]
    clear hb
    generalize cmpB fr key = z at *
    generalize ends key tu = en at *
    generalize fr.length = nf at *
    generalize tu.length = nt at *
    go_enter Tryz.func72, Tryz.ntmps72
    go_wp2_with (first
      | (go_at_call 62; refine (C.out _ B0.out).mono ?_; rintro e w1 ⟨rfl, rfl⟩))
    go_ret
    exact ⟨rfl, B0.out⟩
set_option maxHeartbeats 1000000 in
theorem meets_any (h1 : Rd w w.heap.size A1 c1 lo) (h2 : Rd w w.heap.size A2 c2 hi) (h3 : Rd w w.heap.size A3 c3 fr) (h4 : Rd w w.heap.size A4 c4 tu) :
    Calls Tryz.prog 70 #[.agg #[.slice A1 lo.length c1, .slice A2 hi.length c2], .agg #[.slice A3 fr.length c3, .slice A4 tu.length c4]] w fun e w' => e = .returned (.bool (meets lo hi fr tu)) ∧ Below w.heap.size w w' := by
  have he : meets lo hi fr tu = (ends fr hi && ends lo tu) := rfl
  rw [he]
  have E1 := Lib.hid (fun W (hb : Below w.heap.size w W) => ends_any (w := W) (A0 := A1) (n0 := lo.length) (c0 := c1) ((h3.below hb).more hb.size) ((h2.below hb).more hb.size))
  have E2 := Lib.hid (fun W (hb : Below w.heap.size w W) => ends_any (w := W) (A0 := A3) (n0 := fr.length) (c0 := c3) ((h1.below hb).more hb.size) ((h4.below hb).more hb.size))
  clear he h1 h2 h3 h4
  have B0 := Lib.hid ((box1 w (.cells #[.slice A1 lo.length c1, .slice A2 hi.length c2] 72)).alloc (by simp) (.cells #[.slice A3 fr.length c3, .slice A4 tu.length c4] 72))
  generalize ends lo tu = en at *
  by_cases hb : ends fr hi = true
  · rw [hb] at E1 ⊢
    clear hb
    generalize lo.length = n1 at *
    generalize hi.length = n2 at *
    generalize fr.length = n3 at *
    generalize tu.length = n4 at *
    go_enter Tryz.func70, Tryz.ntmps70
    go_wp2_with (first
      | (go_at_call 99; refine (E2.out _ (B0.out.trans (B1.out.mono B0.out.size))).mono ?_; rintro e w2 ⟨rfl, hb2⟩; have B2 := Lib.hid hb2; clear hb2)
      | (go_at_call 99; refine (E1.out _ B0.out).mono ?_; rintro e w1 ⟨rfl, hb1⟩; have B1 := Lib.hid hb1; have g0 := hb1.cell (p := ⟨w.heap.size, 0, none⟩) (by simp [World.size_alloc]; try omega); have g1 := hb1.cell (p := ⟨w.heap.size, 1, none⟩) (by simp [World.size_alloc]; try omega); have g2 := hb1.cell (p := ⟨w.heap.size + 1, 0, none⟩) (by simp [World.size_alloc]; try omega); have g3 := hb1.cell (p := ⟨w.heap.size + 1, 1, none⟩) (by simp [World.size_alloc]; try omega); clear hb1; simp [go_sem] at g0 g1 g2 g3))
    go_ret
    exact ⟨rfl, (B0.out.trans (B1.out.mono B0.out.size)).trans (B2.out.mono (by have := B1.out.size; simp at this; omega))⟩
  · have hb : ends fr hi = false := by simpa using hb
    rw [hb] at E1 ⊢
    clear hb
    generalize lo.length = n1 at *
    generalize hi.length = n2 at *
    generalize fr.length = n3 at *
    generalize tu.length = n4 at *
    go_enter Tryz.func70, Tryz.ntmps70
    go_wp2_with (first
      | (go_at_call 99; refine (E1.out _ B0.out).mono ?_; rintro e w1 ⟨rfl, hb1⟩; have B1 := Lib.hid hb1; clear hb1))
    go_ret
    exact ⟨rfl, B0.out.trans (B1.out.mono B0.out.size)⟩
end
section
variable {w w' : World} {F G : Nat → Prop} {N : Nat} {v : Value}
theorem kfb {F : Nat → Prop} {w w' : World} (h : Below w.heap.size w w') : Kf F w w' F := Kf.ofBelow F h
theorem isize_any (A1 A2 : Option Addr) (n1 n2 c1 c2 : Nat) (q : Option Addr) (h1 : n1 ≤ 4611686018427387904) (h2 : n2 ≤ 4611686018427387) (w : World) :
    Calls Tryz.prog 154 #[.agg #[.slice A1 n1 c1, .slice A2 n2 c2, .pointer q]] w fun e w' => e = .returned (.int .i64 (4 + (n1 : Int) + (n2 : Int))) ∧ Below w.heap.size w w' := by
  have e1 : wrap64 (4 + (n1 : Int)) = 4 + (n1 : Int) := by unfold wrap64; omega
  have e2 : wrap64 (4 + (n1 : Int) + (n2 : Int)) = 4 + (n1 : Int) + (n2 : Int) := by unfold wrap64; omega
  go_enter Tryz.func154, Tryz.ntmps154
  go_wp2
  go_ret
  exact ⟨rfl, box1 _ _⟩
theorem isum_take_le (l : List It) (i : Nat) : isum (l.take i) ≤ isum l := by have := isum_take_drop l i; omega
set_option maxHeartbeats 1000000 in
theorem size_any {l : List It} (h : KR w F N v l) (hs : isum l ≤ 1000000000) :
    Calls Tryz.prog 121 #[v] w fun e w' => e = .returned (.int .i64 (isum l : Int)) ∧ Below w.heap.size w w' := by
  obtain ⟨A, c, rfl, hc1, hc2⟩ := h.form
  have hcap : (l.length : Int) ≤ 9223372036854775807 := by unfold maxLen at hc2; omega
  have H := Lib.hid h
  have HS := Lib.hid hs
  clear h hs hc1 hc2
  go_enter Tryz.func121, Tryz.ntmps121
  go_wp2
  go_loopw [3, 8] (fun s v wr => ∃ k : Nat, k ≤ l.length ∧ v = .int .i64 k ∧ s = .int .i64 (isum (l.take k) : Int) ∧ Below w.heap.size w wr) (fun _ v _ => l.length - (intOf v).toNat)
  case atStart => exact ⟨0, Nat.zero_le _, rfl, rfl, Below.refl _ _⟩
  case round =>
    obtain ⟨k, hk, rfl, rfl, hb⟩ := hrel
    by_cases hlt : k < l.length
    · obtain ⟨b, o, A1, c1, A2, c2, q, rfl, g1, g2, g3, r1, r2, _, _⟩ := (H.out.kf (kfb hb)).at hlt
      have h3i : (k : Int) < (l.length : Int) := by omega
      have hsz : isum (l.take (k + 1)) = isum (l.take k) + isz l[k] := isum_take_succ l k hlt
      have hle : isum (l.take (k + 1)) ≤ 1000000000 := by have := isum_take_le l (k + 1); have := HS.out; omega
      have hz : isz l[k] = 4 + l[k].1.length + l[k].2.length := rfl
      have HSZ := Lib.hid hsz
      have HZ := Lib.hid hz
      have C := Lib.hid (fun W => isize_any A1 A2 l[k].1.length l[k].2.length c1 c2 q (by omega) (by omega) W)
      have hw : wrap64 ((isum (l.take k) : Int) + (4 + (l[k].1.length : Int) + (l[k].2.length : Int))) = (isum (l.take (k + 1)) : Int) := by unfold wrap64; omega
      have HB := Lib.hid hb
      clear hsz hz hle r1 r2 hb
      generalize l[k].1.length = n1 at *
      generalize l[k].2.length = n2 at *
      generalize isum (l.take k) = s1 at *
      go_wp2_with (go_at_call 154; refine (C.out _).mono ?_; rintro e w1 ⟨rfl, hb1⟩; have B1 := Lib.hid hb1; clear hb1)
      go_roundw
      case rel => exact ⟨k + 1, by omega, by go_num, by rw [hw], HB.out.trans ((box1 _ _).trans (B1.out.mono (by simp)) |>.mono HB.out.size)⟩
      case measure => simp [intOf]; omega
    · obtain rfl : k = l.length := by omega
      simp only [List.take_length]
      go_wp2
      go_ret
      exact ⟨rfl, hb⟩
set_option maxHeartbeats 1000000 in
theorem nsize_any {l : List It} (p k : Int) (A1 A2 : Option Addr) (n1 n2 c1 c2 : Nat) (h : KR w F N v l) (hs : isum l ≤ 1000000000) :
    Calls Tryz.prog 92 #[.agg #[.int .i64 p, .int .i64 k, .slice A1 n1 c1, .slice A2 n2 c2, v]] w fun e w' => e = .returned (.int .i64 ((1 + isum l : Nat) : Int)) ∧ Below w.heap.size w w' := by
  obtain ⟨A, c, rfl, hc1, hc2⟩ := h.form
  have hw : wrap64 (1 + (isum l : Int)) = ((1 + isum l : Nat) : Int) := by unfold wrap64; omega
  have B0 := Lib.hid (box1 w (.cells #[.int .i64 p, .int .i64 k, .slice A1 n1 c1, .slice A2 n2 c2, .slice A l.length c] 75))
  have C := Lib.hid (fun W (hb : Below w.heap.size w W) => size_any (h.kf (kfb hb)) hs)
  clear h hs hc1 hc2
  generalize l.length = n at *
  generalize isum l = z at *
  generalize ((1 + z : Nat) : Int) = zz at *
  go_enter Tryz.func92, Tryz.ntmps92
  go_wp2_with (go_at_call 121; refine (C.out _ B0.out).mono ?_; rintro e w1 ⟨rfl, hb1⟩; have B1 := Lib.hid hb1; clear hb1)
  go_ret
  exact ⟨by rw [← hw]; rfl, B0.out.trans (B1.out.mono B0.out.size)⟩
end
section
variable {w w' : World} {F G : Nat → Prop} {N : Nat} {v : Value}
set_option maxHeartbeats 1000000 in
theorem may_any (A1 A2 : Option Addr) (c1 c2 : Nat) (q : Option Addr) (k : Nat) (x : It) (h : may k x = true) (w : World) :
    Calls Tryz.prog 133 #[.agg #[.slice A1 x.1.length c1, .slice A2 x.2.length c2, .pointer q], .int .i64 (k : Int)] w fun e w' => e = .returned (.bool true) ∧ Below w.heap.size w w' := by
  unfold may at h
  generalize x.1.length = n1 at *
  generalize x.2.length = n2 at *
  by_cases hk : k = 0
  · subst hk
    rw [if_pos rfl] at h
    simp only [Bool.and_eq_true, decide_eq_true_eq] at h
    obtain ⟨⟨h1, h2⟩, h3⟩ := h
    have h1' : (0 : Int) < (n1 : Int) := by omega
    have h2' : (n1 : Int) ≤ 256 := by omega
    have h3' : (n2 : Int) ≤ 1024 := by omega
    clear h1 h2 h3
    go_enter Tryz.func133, Tryz.ntmps133
    go_wp2
    go_ret
    exact ⟨rfl, box1 _ _⟩
  · rw [if_neg hk] at h
    simp only [Bool.and_eq_true, decide_eq_true_eq, beq_iff_eq] at h
    obtain ⟨h1, h2⟩ := h
    have h0 : (0 : Int) < (k : Int) := by omega
    have h1' : (n1 : Int) ≤ 256 := by omega
    subst h2
    clear h1
    go_enter Tryz.func133, Tryz.ntmps133
    go_wp2
    go_ret
    exact ⟨rfl, box1 _ _⟩
theorem find1_any {A1 A3 : Option Addr} {c1 c3 : Nat} {a key : By} (A2 : Option Addr) (n2 c2 : Nat) (q : Option Addr) (h1 : Rd w w.heap.size A1 c1 a) (h3 : Rd w w.heap.size A3 c3 key) :
    Calls Tryz.prog 61 #[.agg #[.slice A1 a.length c1, .slice A2 n2 c2, .pointer q], .slice A3 key.length c3] w fun e w' => e = .returned (.int .i64 (cmpB a key)) ∧ Below w.heap.size w w' := by
  have C := Lib.hid (fun W (hb : Below w.heap.size w W) => Compare_any (w := W) (h1.below hb) (h3.below hb))
  clear h1 h3
  generalize cmpB a key = z at *
  generalize a.length = na at *
  go_enter Tryz.func61, Tryz.ntmps61
  go_wp2_with (go_at_call 62; refine (C.out _ (box1 _ _)).mono ?_; rintro e w1 ⟨rfl, rfl⟩)
  go_ret
  exact ⟨rfl, box1 _ _⟩
theorem find1_enters (args : Array Value) (W : World) : (callFunc 61 args).run Tryz.prog W = .ok (.enter 61 args) W := by kernel_rfl
set_option maxHeartbeats 4000000 in
theorem search_any {l : List It} {A3 : Option Addr} {c3 : Nat} {key : By} (h : KR w F N v l) (ho : Ord l) (hs : isum l ≤ 1000000000) (hk : Rd w w.heap.size A3 c3 key) :
    Calls Tryz.prog 60 #[v, .slice A3 key.length c3, .func (.func 61) #[] #[]] w fun e w' => e = .returned (.tuple #[.int .i64 (lows l key : Nat), .bool (hasK l key)]) ∧ Below w.heap.size w w' := by
  obtain ⟨A, c, rfl, hc1, hc2⟩ := h.form
  have hcap : l.length ≤ 140737488355328 := by have := len_le_isum l; omega
  have eg := find1_enters
  have H := Lib.hid h
  have HO := Lib.hid ho
  have HK := Lib.hid hk
  have HCAP := Lib.hid hcap
  clear h ho hk hc1 hc2 hs
  go_enter Tryz.func60, Tryz.ntmps60
  go_wp2
  go_loopw [9, 10] (fun s9 s10 wr => ∃ lo hi : Nat, s9 = .int .i64 lo ∧ s10 = .int .i64 hi ∧ lo ≤ hi ∧ hi ≤ l.length ∧ Below w.heap.size w wr ∧ Hid ((∀ j x, j < lo → l[j]? = some x → blt x.1 key = true) ∧ (∀ j x, hi ≤ j → l[j]? = some x → blt x.1 key = false))) (fun s9 s10 _ => (intOf s10).toNat - (intOf s9).toNat)
  case atStart => exact ⟨0, l.length, rfl, rfl, Nat.zero_le _, Nat.le_refl _, Below.refl _ _, Lib.hid ⟨fun j x hj => absurd hj (by omega), fun j x hj hx => by have := (List.getElem?_eq_some_iff.1 hx).1; omega⟩⟩
  case round =>
    obtain ⟨lo, hi, rfl, rfl, hlh, hin, hb, I⟩ := hrel
    by_cases hlt : lo < hi
    · have hm : (lo + hi) / 2 < l.length := by omega
      obtain ⟨b, o, A1, c1, A2, c2, q, rfl, g1, g2, g3, r1, r2, _, _⟩ := (H.out.kf (kfb hb)).at hm
      have C := Lib.hid (find1_any A2 l[(lo + hi) / 2].2.length c2 q r1 ((HK.out.below hb).more hb.size))
      have HX := Lib.hid (show l[(lo + hi) / 2]? = some l[(lo + hi) / 2] from List.getElem?_eq_getElem hm)
      have HB := Lib.hid hb
      have hmi : ((lo : Int) + (hi : Int)) / 2 < (l.length : Int) := by omega
      clear r1 r2 hb
      generalize l[(lo + hi) / 2] = x at *
      by_cases hx : blt x.1 key = true
      · have hz : cmpB x.1 key < 0 := (cmp_lt _ _).2 hx
        have I2 := Lib.hid (show (∀ j y, j < (lo + hi) / 2 + 1 → l[j]? = some y → blt y.1 key = true) ∧ (∀ j y, hi ≤ j → l[j]? = some y → blt y.1 key = false) from ⟨fun j y hj hy => by
          obtain ⟨h1, h2⟩ := List.getElem?_eq_some_iff.1 hy
          obtain ⟨h3, h4⟩ := List.getElem?_eq_some_iff.1 HX.out
          rcases Nat.lt_or_ge j ((lo + hi) / 2) with hj2 | hj2
          · have := List.pairwise_iff_getElem.1 HO.out j _ h1 h3 hj2
            rw [h2, h4] at this; exact blt_trans this hx
          · obtain rfl : j = (lo + hi) / 2 := by omega
            rw [h4] at h2; rw [← h2]; exact hx, I.out.2⟩)
        clear hx
        generalize cmpB x.1 key = z at *
        generalize x.1.length = n1 at *
        generalize x.2.length = n2 at *
        go_wp2_with (go_at_fn 61; refine C.out.mono ?_; rintro e w1 ⟨rfl, hb1⟩; have B1 := Lib.hid hb1; clear hb1)
        go_roundw
        case rel => exact ⟨(lo + hi) / 2 + 1, hi, by go_num, rfl, by omega, hin, HB.out.trans (B1.out.mono HB.out.size), I2⟩
        case measure => simp [intOf]; omega
      · have hz : ¬ cmpB x.1 key < 0 := fun e => hx ((cmp_lt _ _).1 e)
        have I2 := Lib.hid (show (∀ j y, j < lo → l[j]? = some y → blt y.1 key = true) ∧ (∀ j y, (lo + hi) / 2 ≤ j → l[j]? = some y → blt y.1 key = false) from ⟨I.out.1, fun j y hj hy => by
          obtain ⟨h1, h2⟩ := List.getElem?_eq_some_iff.1 hy
          obtain ⟨h3, h4⟩ := List.getElem?_eq_some_iff.1 HX.out
          have hx : blt x.1 key = false := by simpa using hx
          rcases Nat.lt_or_ge ((lo + hi) / 2) j with hj2 | hj2
          · have := List.pairwise_iff_getElem.1 HO.out _ j h3 h1 hj2
            rw [h2, h4] at this
            rcases hy2 : blt y.1 key with _ | _
            · rfl
            · rw [blt_trans this hy2] at hx; cases hx
          · obtain rfl : j = (lo + hi) / 2 := by omega
            rw [h4] at h2; rw [← h2]; exact hx⟩)
        clear hx
        generalize cmpB x.1 key = z at *
        generalize x.1.length = n1 at *
        generalize x.2.length = n2 at *
        go_wp2_with (go_at_fn 61; refine C.out.mono ?_; rintro e w1 ⟨rfl, hb1⟩; have B1 := Lib.hid hb1; clear hb1)
        go_roundw
        case rel => exact ⟨lo, (lo + hi) / 2, rfl, by go_num, by omega, by omega, HB.out.trans (B1.out.mono HB.out.size), I2⟩
        case measure => simp [intOf]; omega
    · obtain rfl : lo = hi := by omega
      have hlow : lows l key = lo := lows_eq hin I.out.1 fun x hx => I.out.2 lo x (Nat.le_refl _) hx
      by_cases hn : lo < l.length
      · obtain ⟨b, o, A1, c1, A2, c2, q, rfl, g1, g2, g3, r1, r2, _, _⟩ := (H.out.kf (kfb hb)).at hn
        have hhas : hasK l key = (l[lo].1 == key) := by unfold hasK; rw [hlow, List.getElem?_eq_getElem hn]
        have C := Lib.hid (find1_any A2 l[lo].2.length c2 q r1 ((HK.out.below hb).more hb.size))
        have HB := Lib.hid hb
        have hz : (l[lo].1 == key) = (cmpB l[lo].1 key == 0) := by
          have := cmp_zero l[lo].1 key
          rw [Bool.eq_iff_iff, beq_iff_eq, beq_iff_eq]; exact this.symm
        have HH := Lib.hid (hhas.trans hz)
        have HL := Lib.hid hlow
        have hni : (lo : Int) < (l.length : Int) := by omega
        clear r1 r2 hb hz hlow hhas
        generalize cmpB l[lo].1 key = z at *
        generalize l[lo].1.length = n1 at *
        generalize l[lo].2.length = n2 at *
        go_wp2_with (go_at_fn 61; refine C.out.mono ?_; rintro e w1 ⟨rfl, hb1⟩; have B1 := Lib.hid hb1; clear hb1)
        go_ret2
        exact ⟨by rw [HL.out, HH.out]; rfl, HB.out.trans (B1.out.mono HB.out.size)⟩
      · have hhas : hasK l key = false := by unfold hasK; rw [hlow, List.getElem?_eq_none (by omega)]
        have HH := Lib.hid hhas
        have HL := Lib.hid hlow
        clear hhas hlow
        have hni : ¬ (lo : Int) < (l.length : Int) := by omega
        have hnd : decide ((lo : Int) < (l.length : Int)) = false := decide_eq_false hni
        go_wp2
        go_ret2
        exact ⟨by rw [HL.out, HH.out]; rfl, hb⟩
end
def cutA (A : Option Addr) (n c s : Nat) : Option Addr := if c = n then A else A.map (·.add (n * s))
theorem sliced_from (A : Option Addr) (n len c s : Nat) : sliced A n len c s = .slice (cutA A n c s) (len - n) (c - n) := rfl
theorem add0 (a : Addr) : a.add 0 = a := by unfold Addr.add; simp
theorem sliced_to (A : Option Addr) (n m s : Nat) : sliced A 0 n m s = .slice A n m := by
  unfold sliced
  simp only [Nat.zero_mul, Nat.sub_zero]
  congr 1
  split
  · rfl
  · cases A with
    | none => rfl
    | some a => simp [add0]
section
variable (A : Option Addr) (n len c : Nat) (W : World)
theorem run_from8 (h : n ≤ len) : (Instr.sliceAt 32 (.slice A len c) (some (.int .i64 (n : Int))) none none).run Tryz.prog W = .ok (.slice (cutA A n c 1) (len - n) (c - n)) W := by
  rw [run_sliceAt_slice (P := Tryz.prog) W 32 _ _ _ _ Tryz.underlying32, run_slice_l (P := Tryz.prog) W 32 A len c Tryz.underlying32 .i64 (n : Int) (by omega) (by omega)]
  exact congrArg (fun v => Result.ok v W) (sliced_from A n len c 1)
theorem run_to8 (h : n ≤ c) : (Instr.sliceAt 32 (.slice A len c) none (some (.int .i64 (n : Int))) (some (.int .i64 (n : Int)))).run Tryz.prog W = .ok (.slice A n n) W := by
  rw [run_sliceAt_slice (P := Tryz.prog) W 32 _ _ _ _ Tryz.underlying32, run_slice_hm (P := Tryz.prog) W 32 A len c Tryz.underlying32 .i64 .i64 (n : Int) (n : Int) (by omega) (by omega) (by omega)]
  exact congrArg (fun v => Result.ok v W) (sliced_to A n n 1)
theorem run_fromI (h : n ≤ len) : (Instr.sliceAt 73 (.slice A len c) (some (.int .i64 (n : Int))) none none).run Tryz.prog W = .ok (.slice (cutA A n c 3) (len - n) (c - n)) W := by
  rw [run_sliceAt_slice (P := Tryz.prog) W 73 _ _ _ _ Tryz.underlying73, run_slice_l (P := Tryz.prog) W 73 A len c Tryz.underlying73 .i64 (n : Int) (by omega) (by omega)]
  exact congrArg (fun v => Result.ok v W) (sliced_from A n len c 3)
theorem run_toI (h : n ≤ c) : (Instr.sliceAt 73 (.slice A len c) none (some (.int .i64 (n : Int))) (some (.int .i64 (n : Int)))).run Tryz.prog W = .ok (.slice A n n) W := by
  rw [run_sliceAt_slice (P := Tryz.prog) W 73 _ _ _ _ Tryz.underlying73, run_slice_hm (P := Tryz.prog) W 73 A len c Tryz.underlying73 .i64 .i64 (n : Int) (n : Int) (by omega) (by omega) (by omega)]
  exact congrArg (fun v => Result.ok v W) (sliced_to A n n 3)
end
section
variable {w w' : World} {F G : Nat → Prop} {N : Nat} {v : Value}
theorem RdF.cut {A : Option Addr} {m c : Nat} {l : By} (h : RdF w F (.slice A m c) l) {n : Nat} (hn : n ≤ l.length) : m = l.length ∧ n ≤ c ∧ RdF w F (.slice A n n) (l.take n) ∧ RdF w F (.slice (cutA A n c 1) (m - n) (c - n)) (l.drop n) := by
  obtain ⟨A', c', e, h1, h2, h3, h4⟩ := h
  injection e with e1 e2 e3
  subst e1 e2 e3
  refine ⟨rfl, by omega, ⟨A, n, by rw [List.length_take, Nat.min_eq_left hn], by rw [List.length_take]; omega, by omega, fun e => by have := h3 e; omega, fun h0 => ?_⟩, ⟨_, _, by rw [List.length_drop], by rw [List.length_drop]; omega, by omega, fun e => ?_, fun h0 => ?_⟩⟩
  · rw [List.length_take] at h0
    obtain ⟨b, o, e, hb, hf, hc⟩ := h4 (by omega)
    exact ⟨b, o, e, hb, hf, fun i hi => by rw [List.length_take] at hi; rw [hc i (by omega), List.getElem_take]⟩
  · unfold cutA at e
    split at e
    · omega
    · cases A with
      | none => have := h3 rfl; omega
      | some a => cases e
  · rw [List.length_drop] at h0
    obtain ⟨b, o, rfl, hb, hf, hc⟩ := h4 (by omega)
    refine ⟨b, o + n, ?_, hb, hf, fun i hi => ?_⟩
    · unfold cutA
      rw [if_neg (by omega)]
      simp only [Option.map_some, Nat.mul_one]
      unfold Addr.add
      split
      · simp_all
      · rfl
    · rw [List.length_drop] at hi
      rw [Nat.add_assoc, hc (n + i) (by omega), List.getElem_drop]
set_option maxHeartbeats 1000000 in
theorem cut_any {A : Option Addr} {c : Nat} {l : By} (h : RdF w F (.slice A l.length c) l) {n : Nat} (hn : n ≤ l.length) :
    Calls Tryz.prog 131 #[.slice A l.length c, .int .i64 (n : Int)] w fun e w' => e = .returned (.tuple #[.slice A n n, .slice (cutA A n c 1) (l.length - n) (c - n)]) ∧ ∃ q, w' = w.drewN q := by
  obtain ⟨_, hnc, _, _⟩ := h.cut hn
  have hr1 := fun W => run_from8 A n l.length c W hn
  have hr2 := fun W => run_to8 A n l.length c W hnc
  have hg : ¬ (l.length : Int) < (n : Int) := by omega
  clear h
  generalize l.length = m at *
  go_enter Tryz.func131, Tryz.ntmps131
  go_wp2
  go_quiet (fail)
  go_wp2
  go_ret2
  exact ⟨rfl, _, rfl⟩
theorem be2_cells (n : Nat) (hn : n < 65536) : (#[Value.int .u8 ((n : Int) / 256), Value.int .u8 ((n : Int) % 256)] : Array Value) = bcs (be2 n) := by
  apply Array.toList_inj.1
  have e1 : ((UInt8.ofNat (n / 256)).toNat : Int) = (n : Int) / 256 := by rw [UInt8.toNat_ofNat']; omega
  have e2 : ((UInt8.ofNat n).toNat : Int) = (n : Int) % 256 := by rw [UInt8.toNat_ofNat']; omega
  simp only [bcs, be2, List.map_cons, List.map_nil, bv, e1, e2]
set_option maxHeartbeats 1000000 in
theorem digits_any (n : Nat) (hn : n < 65536) (w : World) :
    Calls Tryz.prog 126 #[.int .i64 (n : Int)] w fun e w' => ∃ v, e = .returned v ∧ Mem.Own 5 w' w.heap.size v (be2 n) ∧ Below w.heap.size w w' := by
  go_enter Tryz.func126, Tryz.ntmps126
  go_wp2
  go_ret
  refine ⟨_, rfl, ?_, box1 _ _⟩
  rw [be2_cells n hn]
  exact Mem.Own.lit 5 w (be2 n) _ (Nat.le_refl _) (by simp [be2, maxLen])
theorem i64_or_nat (a b : Nat) (ha : a < 4294967296) (hb : b < 4294967296) : bits .or .i64 (a : Int) (b : Int) = ((a ||| b : Nat) : Int) := by
  have hx : a ||| b < 2 ^ 32 := Nat.or_lt_two_pow (by omega) (by omega)
  show IntKind.i64.wrap ((BitVec.ofInt 64 (a : Int) ||| BitVec.ofInt 64 (b : Int)).toNat : Int) = _
  rw [BitVec.toNat_or, ofInt_u64 a (by omega), ofInt_u64 b (by omega), IntKind.wrap_i64]
  omega
set_option maxHeartbeats 1000000 in
theorem number_any {A : Option Addr} {c p B : Nat} (h : Rd w B A c (be2 p)) (hp : p < 65536) :
    Calls Tryz.prog 88 #[.slice A 2 c] w fun e w' => e = .returned (.int .i64 (p : Int)) ∧ ∃ q, w' = w.drewN q := by
  obtain ⟨b, o, rfl, hb, hc⟩ := h.2.2.2 (by simp [be2])
  have c0 := hc 0 (by simp [be2])
  have c1 := hc 1 (by simp [be2])
  clear h hc
  simp only [be2, List.getElem_cons_zero, List.getElem_cons_succ, Nat.add_zero] at c0 c1
  go_enter Tryz.func88, Tryz.ntmps88
  go_wp2
  go_quiet (fail)
  go_wp2
  go_ret
  refine ⟨?_, _, rfl⟩
  have e1 : (p : Int) / 256 % 256 * 256 = ((p / 256 * 256 : Nat) : Int) := by omega
  have e2 : (p : Int) % 256 = ((p % 256 : Nat) : Int) := by omega
  have e3 : bits .or .i64 ((p : Int) / 256 % 256 * 256) ((p : Int) % 256) = (p : Int) := by
    rw [e1, e2, i64_or_nat _ _ (by omega) (by omega), shl_or _ _ (Nat.mod_lt _ (by omega))]; congr 1; omega
  rw [e3]; rfl
end
end Go.Proofs.YtcjokkjepgfinaaGreatDoor.Tr
