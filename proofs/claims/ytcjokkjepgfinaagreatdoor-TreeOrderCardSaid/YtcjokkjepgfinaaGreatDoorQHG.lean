import Derived.Test.YtcjokkjepgfinaaGreatDoorQHF
set_option linter.unusedVariables false
set_option linter.unusedSimpArgs false
namespace Go.Proofs.YtcjokkjepgfinaaGreatDoor.Tr
set_option maxRecDepth 8000
open Go.RowKit Mem Sk
open Dk (Fr)
section
variable {B : Nat} {W w w' : World} {sb db : Nat} {y y' : SLay} {s s' : Sto} {yd yd' : Dk.Lay} {d d' : Dk.Dsk} {m m' : Nat} {F G : Nat → Prop} {N : Nat} {v : Value} {key : By}
structure TreeIn (s : Sto) (d : Dk.Dsk) (k p : Nat) (l : Its k) : Prop where
  root : s.cur.now.root = p
  lev : k < 256
  pgs : Pgs s d k l
  here : (p = 0 ∧ k = 0 ∧ l = []) ∨ (p ≠ 0 ∧ Ok k 0 [] [] l ∧ PageOk s d p (told k l))
theorem TreeIn.ok {k p : Nat} {l : Its k} (t : TreeIn s d k p l) : (k = 0 ∧ l = []) ∨ Ok k 0 [] [] l := t.here.imp (fun h => h.2) (fun h => h.2.1)
theorem its_nil {k : Nat} {l : Its k} (h : l = []) : its l = [] := by rw [h]; rfl
theorem down_tree {A3 : Option Addr} {c3 k p : Nat} {l : Its k} (bo : Bo B W w sb db y yd s d m) (hg : Sk.gone s d = false) (t : TreeIn s d k p l) (h3 : RdF w (fun _ => False) (.slice A3 key.length c3) key) :
    Calls Tryz.prog 31 #[pt sb, .slice A3 key.length c3] w fun e w' =>
      ∃ v cs, e = .returned v ∧ WRow w' (fun q => q < w.heap.size) v cs ∧ Wy w' (fun q => q < w.heap.size) w.heap.size key k p [] [] l cs ∧ Below w.heap.size w w' := by
  refine down_any bo (fun X hb => ?_) t.lev t.ok t.pgs h3
  rcases t.here with ⟨rfl, rfl, hl⟩ | ⟨hp, hok, hpo⟩
  · refine (root_zero (bo.keep hb) t.root).mono ?_
    rintro e w' ⟨rfl, h2⟩
    refine ⟨.slice none 0 0, rfl, ?_, h2⟩
    rw [its_nil hl]
    exact ⟨none, 0, rfl, Nat.le_refl _, by unfold maxLen; omega, fun _ => rfl, fun h => absurd h (by simp)⟩
  · have hr := hok.here
    have := t.root
    subst this
    exact top_any (bo.keep hb) hg hpo hp t.lev hr.1 hr.2.2
theorem Wy.last' {k p : Nat} {lo hi : By} {l : Its k} {cs : List (List Value)} (h : Wy w F N key k p lo hi l cs) : ∃ (q : Nat) (A2 A3 A4 : Option Addr) (n2 n3 c2 c3 c4 : Nat), cs[k]? = some [.int .i64 (q : Int), .int .i64 0, .slice A2 n2 c2, .slice A3 n3 c3, .slice A4 (its (leafOf key k l)).length c4, .int .i64 0] ∧ KR0 w F N (.slice A4 (its (leafOf key k l)).length c4) (its (leafOf key k l)) := by
  induction k generalizing p lo hi cs with
  | zero =>
    obtain ⟨fv, tv, iv, rfl, ⟨A2, c2, rfl, _⟩, ⟨A3, c3, rfl, _⟩, h⟩ := h
    obtain ⟨A4, c4, rfl, _, _⟩ := h.kr.form
    exact ⟨p, A2, A3, A4, _, _, c2, c3, c4, rfl, h⟩
  | succ k ih =>
    obtain ⟨fv, tv, iv, x, r, rest, rfl, h1, h2, h3, h4, h5, h6⟩ := h
    obtain ⟨q, A2, A3, A4, n2, n3, c2, c3, c4, g1, g2⟩ := ih h6
    have e : leafOf key (k + 1) l = leafOf key k (sub x.2) := by rw [leafOf_succ, kidAt_of (toward_its l key ▸ h4)]
    rw [e]
    exact ⟨q, A2, A3, A4, n2, n3, c2, c3, c4, by simpa using g1, g2⟩
theorem leaf_tree {k p : Nat} {lo hi : By} {l : Its k} {cs : List (List Value)} (hk : k < 256) (hw : WRow w F v cs) (h : Wy w F N key k p lo hi l cs) :
    Calls Tryz.prog 32 #[v] w fun e w' => ∃ (q : Nat) (A2 A3 A4 : Option Addr) (n2 n3 c2 c3 c4 : Nat), e = .returned (.agg #[.int .i64 (q : Int), .int .i64 0, .slice A2 n2 c2, .slice A3 n3 c3, .slice A4 (its (leafOf key k l)).length c4]) ∧
      KR0 w F N (.slice A4 (its (leafOf key k l)).length c4) (its (leafOf key k l)) ∧ Below w.heap.size w w' := by
  obtain ⟨b, o, c, rfl, _, _, _, _, _, hc⟩ := hw
  obtain ⟨q, A2, A3, A4, n2, n3, c2, c3, c4, g1, g2⟩ := h.last'
  rw [h.len.1]
  refine (leaf_any (by omega) (hc k 0 _ _ g1 rfl) (hc k 1 _ _ g1 rfl) (hc k 2 _ _ g1 rfl) (hc k 3 _ _ g1 rfl) (hc k 4 _ _ g1 rfl)).mono ?_
  rintro e w' ⟨rfl, hb⟩
  exact ⟨q, A2, A3, A4, n2, n3, c2, c3, c4, rfl, g2, hb⟩
theorem TreeIn.leaf {k p : Nat} {l : Its k} (t : TreeIn s d k p l) (key : By) : Ord (its (leafOf key k l)) ∧ isum (its (leafOf key k l)) ≤ 5000 ∧ hasK (prs k l) key = hasK (its (leafOf key k l)) key ∧ getK (prs k l) key = getK (leafOf key k l) key := by
  rcases t.here with ⟨rfl, rfl, rfl⟩ | ⟨hp, hok, hpo⟩
  · exact ⟨List.Pairwise.nil, by show isum [] ≤ 5000; rw [isum_nil]; omega, rfl, rfl⟩
  · obtain ⟨h1, h2, lo, hi, mm, h3, h4⟩ := leaf_facts hok (inS_all key)
    have hr := h3.here
    refine ⟨ord_its hr.1.ord, by have := hr.2.2; unfold nsz at this; omega, by rw [h1, hasK_its], h2⟩
end
end Go.Proofs.YtcjokkjepgfinaaGreatDoor.Tr
