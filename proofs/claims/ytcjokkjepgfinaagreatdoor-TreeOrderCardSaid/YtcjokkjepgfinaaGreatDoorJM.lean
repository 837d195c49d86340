import Derived.Test.YtcjokkjepgfinaaGreatDoorQJJ
import Derived.Test.YtcjokkjepgfinaaGreatDoorJL
namespace Go.Proofs.YtcjokkjepgfinaaGreatDoor.Tr
set_option maxRecDepth 8000
set_option linter.unusedVariables false
set_option linter.unusedSimpArgs false
open Go.RowKit Mem Sk
open Dk (Fr ptr newD newY)
section
variable {B B2 : Nat} {W W2 w w' : World} {sb db tb tdb : Nat} {y y' z z' : SLay} {s s' t t' : Sto} {yd zd : Dk.Lay} {d e : Dk.Dsk} {m m' k k' n : Nat} {L M : List It} {key val : By}
theorem Bo.rebase (h : Bo B2 W2 w sb db y yd s d m) (hb : Below B W W2) (hB : B ≤ B2) (hW : B ≤ W.heap.size) (hT : Tab W) (hp : 1 < B) : Bo B W w sb db y yd s d m :=
  ⟨⟨h.st.is, h.st.good, h.st.le, hb.trans (h.st.bel.mono hB), fun k hk => Nat.le_trans hB (h.st.low k hk), hW⟩, h.is, h.good, h.apart, fun k hk => Nat.le_trans hB (h.low k hk), h.nn, h.sm, hT, hp⟩
theorem Bo.other (h : Bo B W w tb tdb z zd t e k) {F G : Nat → Prop} (hk : Kf F w w' G) (hb : Below B W w') (dis : ∀ q, both z zd q → ¬ F q) : Bo B W w' tb tdb z zd t e k ∧ ∀ q, both z zd q → ¬ G q :=
  have hh : ∀ q, both z zd q → w'.heap[q]? = w.heap[q]? := fun q e => hk.fr.block q (both_lt h e) (dis q e)
  ⟨⟨⟨h.st.is.keep hk.fr.size (fun q e => hh q (.inr e)), h.st.good, h.st.le, hb, h.st.low, h.st.base⟩, h.is.keep hk.fr.size (fun q e => hh q (.inl e)), h.good, h.apart, h.low, h.nn, h.sm, h.tabW, h.posB⟩,
   fun q e => (hk.free (both_lt h e) (dis q e)).1⟩
theorem Tst.wide (h : Tst n s d L) (hg : SGood s) (hL : L.length ≤ 120) (hn : 300 ≤ n) {k : Nat} (hl : Low s k) (hx : s.left < 2 * k + 4) : False := by
  have hv := hg.view s.us.length
  rw [view_len] at hv
  have h2 := hg.n5
  have h1 := (h.tree.pages (N := 4096) (fun q hq => by have := (hv.has q hq).2; omega)).1
  have h3 := h.pages hg
  have h4 := hl.lt
  omega
theorem Put_wide {A1 A2 : Option Addr} {c1 c2 : Nat} (bo : Bo B W w sb db y yd s d m) (t : Tst n s d L) (h1 : RdF w (both y yd) (.slice A1 key.length c1) key) (h2 : RdF w (both y yd) (.slice A2 val.length c2) val)
    (hk1 : 1 ≤ key.length) (hk2 : key.length ≤ 256) (hv2 : val.length ≤ 1024) (hm : m < 80000000) (hL : L.length ≤ 120) (hn : 300 ≤ n) :
    Calls Tryz.prog 11 #[pt sb, .slice A1 key.length c1, .slice A2 val.length c2] w fun e w' => e = .returned (.int .i64 0) ∧ ∃ (s2 : Sto) (y2 : SLay) (m2 : Nat), Bo B W w' sb db y2 yd s2 d m2 ∧ m2 ≤ m + 3000 ∧ Tst n s2 d (putK L key val) ∧ Kf (both y yd) w w' (both y2 yd) := by
  refine (Put_tree bo t.on t.tree h1 h2 hk1 hk2 hv2 bo.base hm).mono ?_
  rintro e w' (⟨h, rfl, hb⟩ | ⟨_, rfl, ok⟩ | ⟨_, _, _, k, hx, hl⟩)
  · refine ⟨rfl, s, y, m, bo.keep hb, by omega, ?_, Kf.ofBelow _ hb⟩
    rw [put_same_val h]; exact t
  · obtain ⟨s2, y2, m2, g1, g2, g3, g4, g5⟩ := ok.kf
    exact ⟨rfl, s2, y2, m2, g1, g2, t.after g3 g4, g5⟩
  · exact (t.wide bo.good hL hn hl hx).elim
end
structure Duo (B : Nat) (W w : World) (sb db : Nat) (yd : Dk.Lay) (tb tdb : Nat) (zd : Dk.Lay) (L M : List It) (m : Nat) : Prop where
  ex : ∃ (y z : SLay) (s t : Sto) (d e : Dk.Dsk) (ms mt : Nat), Bo B W w sb db y yd s d ms ∧ Bo B W w tb tdb z zd t e mt ∧ Tst 400 s d L ∧ Tst 400 t e M ∧ (∀ q, both z zd q → ¬ both y yd q) ∧ ms ≤ m ∧ mt ≤ m
section
variable {B : Nat} {W w w' : World} {sb db tb tdb : Nat} {yd zd : Dk.Lay} {L M : List It} {m : Nat} {key val : By}
theorem Duo.bel (h : Duo B W w sb db yd tb tdb zd L M m) : Below B W w := by
  obtain ⟨y, z, s, t, d, e, ms, mt, h1, _⟩ := h.ex
  exact h1.st.bel
theorem Duo.base (h : Duo B W w sb db yd tb tdb zd L M m) : B ≤ w.heap.size := by
  obtain ⟨y, z, s, t, d, e, ms, mt, h1, _⟩ := h.ex
  exact h1.base
theorem Duo.tab (h : Duo B W w sb db yd tb tdb zd L M m) : Tab w := by
  obtain ⟨y, z, s, t, d, e, ms, mt, h1, _⟩ := h.ex
  exact h1.tab
theorem Duo.keep (h : Duo B W w sb db yd tb tdb zd L M m) (hb : Below w.heap.size w w') : Duo B W w' sb db yd tb tdb zd L M m := by
  obtain ⟨y, z, s, t, d, e, ms, mt, h1, h2, h3⟩ := h.ex
  exact ⟨y, z, s, t, d, e, ms, mt, h1.keep hb, h2.keep hb, h3⟩
theorem Duo.swap (h : Duo B W w sb db yd tb tdb zd L M m) : Duo B W w tb tdb zd sb db yd M L m := by
  obtain ⟨y, z, s, t, d, e, ms, mt, h1, h2, h3, h4, h5, h6, h7⟩ := h.ex
  exact ⟨z, y, t, s, e, d, mt, ms, h2, h1, h4, h3, fun q a b => h5 q b a, h7, h6⟩
theorem Duo.Put {A1 A2 : Option Addr} {c1 c2 : Nat} (h : Duo B W w sb db yd tb tdb zd L M m) (hb : Below w.heap.size w w') (k1 : RdF w' (fun q => q < w.heap.size) (.slice A1 key.length c1) key) (k2 : RdF w' (fun q => q < w.heap.size) (.slice A2 val.length c2) val)
    (hk1 : 1 ≤ key.length) (hk2 : key.length ≤ 256) (hv2 : val.length ≤ 1024) (hm : m < 70000000) (hL : L.length ≤ 120) :
    Calls Tryz.prog 11 #[pt sb, .slice A1 key.length c1, .slice A2 val.length c2] w' fun e w2 => e = .returned (.int .i64 0) ∧ Duo B W w2 sb db yd tb tdb zd (putK L key val) M (m + 3000) := by
  obtain ⟨y, z, s, t, d, e, ms, mt, b1, b2, t1, t2, dis, l1, l2⟩ := h.ex
  refine (Put_wide (b1.keep hb) t1 (k1.mono fun q hq => both_lt b1 hq) (k2.mono fun q hq => both_lt b1 hq) hk1 hk2 hv2 (by omega) hL (by omega)).mono ?_
  rintro e' w2 ⟨rfl, s2, y2, m2, g1, g2, g3, g4⟩
  obtain ⟨o1, o2⟩ := Bo.other (b2.keep hb) g4 g1.st.bel dis
  exact ⟨rfl, y2, z, s2, t, d, e, m2, mt, g1, o1, g3, t2, o2, by omega, by omega⟩
def PrAt (w : World) (A : Option Addr) (c : Nat) (L : List It) : Prop :=
  L.length ≤ c ∧ c ≤ maxLen ∧ (0 < L.length → ∃ b o, A = some ⟨b, o, none⟩ ∧ b < w.heap.size ∧ ∀ i (h : i < L.length), ∃ A' c', w.cell? ⟨b, o + i * 2, none⟩ = some (.slice A' L[i].1.length c') ∧ Rd w w.heap.size A' c' L[i].1)
theorem PrAt.below {A : Option Addr} {c : Nat} (h : PrAt w A c L) (hb : Below w.heap.size w w') : PrAt w' A c L :=
  ⟨h.1, h.2.1, fun hn => by
    obtain ⟨b, o, e, hlt, hc⟩ := h.2.2 hn
    refine ⟨b, o, e, Nat.lt_of_lt_of_le hlt hb.size, fun i hi => ?_⟩
    obtain ⟨A', c', h1, h2⟩ := hc i hi
    exact ⟨A', c', (hb.cell (p := ⟨b, o + i * 2, none⟩) hlt).trans h1, (h2.below hb).more hb.size⟩⟩
theorem t2s_fst (ts : List V2) : ∀ (i : Nat) (p : V2), ts[i]? = some p → (t2s ts)[i * 2]? = some p.1 := by
  induction ts with
  | nil => intro i p h; simp at h
  | cons x l ih =>
    intro i p h
    rw [t2s_cons]
    rcases i with _ | i
    · simp at h; subst h; rfl
    · rw [show (i + 1) * 2 = i * 2 + 1 + 1 by omega]
      simp only [List.getElem?_cons_succ] at h ⊢
      exact ih i p h
theorem prAt_of {base : Nat} {v : Value} {ts : List V2} {G : Nat → Prop} (ho : w.ownsRow base 54 2 v ts.length (t2s ts)) (ha : AlP w G ts L) : ∃ A c, v = .slice A L.length c ∧ PrAt w A c L := by
  have hlt := World.ownsRow.lt ho
  have hcells := fun g hg => World.ownsRow.cells (g := g) ho hg
  have hadd : ∀ (b o j : Nat), (⟨b, o, none⟩ : Addr).add j = ⟨b, o + j, none⟩ := fun b o j => by unfold Addr.add; split <;> simp_all
  have hl := ha.1
  rcases ho.2 with ⟨rfl, h0⟩ | ⟨g, cap, cur, rfl, hb, hh, hnc, hcm, _, _⟩
  · have : L.length = 0 := by omega
    rw [this]
    exact ⟨none, 0, rfl, by omega, by unfold maxLen; omega, fun h => by omega⟩
  · rw [hl]
    refine ⟨_, cap, rfl, by omega, hcm, fun _ => ⟨g, 0, rfl, (hlt g rfl).2, fun i hi => ?_⟩⟩
    have hi2 : i < ts.length := by omega
    have hp := List.getElem?_eq_getElem hi2
    obtain ⟨r1, -⟩ := ha.2 i _ _ hp (List.getElem?_eq_getElem hi)
    obtain ⟨A', c', e, hr⟩ := r1.rd
    have := hcells g rfl (i * 2) _ (t2s_fst ts i _ hp)
    rw [hadd, e] at this
    exact ⟨A', c', this, hr⟩
theorem Duo.Range {A1 A2 : Option Addr} {c1 c2 : Nat} {fr tu : By} {F : Nat → Prop} (h : Duo B W w sb db yd tb tdb zd L M m) (h1 : RdF w F (.slice A1 fr.length c1) fr) (h2 : RdF w F (.slice A2 tu.length c2) tu) (hL : L.length ≤ 120) :
    Calls Tryz.prog 17 #[pt sb, .slice A1 fr.length c1, .slice A2 tu.length c2] w fun e w' => ∃ A c, e = .returned (.tuple #[.slice A (L.filter fun x => inS fr tu x.1).length c, .int .i64 0]) ∧ PrAt w' A c (L.filter fun x => inS fr tu x.1) ∧ Below w.heap.size w w' := by
  obtain ⟨y, z, s, t, d, e, ms, mt, b1, b2, t1, t2, dis, l1, l2⟩ := h.ex
  refine (Range_tree b1 t1.on t1.tree h1 h2 b1.base (by omega)).mono ?_
  rintro e' w2 ⟨v, ts, rfl, ho, ha, hb⟩
  obtain ⟨A, c, rfl, hp⟩ := prAt_of ho ha
  exact ⟨A, c, rfl, hp, hb⟩
theorem Duo.new {w1 w2 : World} {y z : SLay} (b1 : Bo w.heap.size w w1 sb db y yd (sto0 400) (newD 400) 0) (b2 : Bo w1.heap.size w1 w2 tb tdb z zd (sto0 400) (newD 400) 0) : Duo w.heap.size w w2 sb db yd tb tdb zd [] [] 0 := by
  have hb := b2.st.bel
  refine ⟨y, z, _, _, _, _, 0, 0, b1.keep hb, Bo.rebase b2 b1.st.bel b1.st.bel.size (Nat.le_refl _) b1.tabW b1.posB, Tst.new 400, Tst.new 400, fun q h1 h2 => ?_, Nat.le_refl _, Nat.le_refl _⟩
  have e1 := both_lt b1 h2
  have e2 : w1.heap.size ≤ q := h1.elim (fun h => b2.low q h) (fun h => b2.st.low q h)
  omega
end
end Go.Proofs.YtcjokkjepgfinaaGreatDoor.Tr
