import Derived.Test.YtnpebfolmdbipaaGreatDoorF7
namespace Go.Proofs.YtnpebfolmdbipaaGreatDoor.Fm
open Go.RowKit Mem

theorem splice_at (p s : List UInt8) (o : Nat) (ho : o + s.length ≤ p.length) (i : Nat) : (splice p o s)[i]? = if i < o then p[i]? else if i < o + s.length then s[i - o]? else p[i]? := by
  unfold splice
  have hl : (p.take o).length = o := by rw [List.length_take]; omega
  by_cases h1 : i < o
  · rw [if_pos h1, List.getElem?_append_left (by omega), List.getElem?_take_of_lt h1]
  · rw [if_neg h1, List.getElem?_append_right (by omega), hl]
    by_cases h2 : i < o + s.length
    · rw [if_pos h2, List.getElem?_append_left (by omega)]
    · rw [if_neg h2, List.getElem?_append_right (by omega), List.getElem?_drop]
      congr 1; omega
/-- Sector k of a page. -/
def sec (l : List UInt8) (k : Nat) : List UInt8 := (l.drop (512 * k)).take 512
theorem sec_at (l : List UInt8) (k i : Nat) : (sec l k)[i]? = if i < 512 then l[512 * k + i]? else none := by
  unfold sec
  rw [List.getElem?_take, List.getElem?_drop]
theorem length_sec (l : List UInt8) (k : Nat) (hl : l.length = 4096) (hk : k < 8) : (sec l k).length = 512 := by
  unfold sec; rw [List.length_take, List.length_drop]; omega
theorem sec_splice (p s : List UInt8) (j k : Nat) (hp : p.length = 4096) (hs : s.length = 512) (hj : j < 8) (_hk : k < 8) : sec (splice p (512 * j) s) k = if k = j then s else sec p k := by
  apply List.ext_getElem?
  intro i
  rw [sec_at, splice_at p s _ (by omega)]
  by_cases e : k = j
  · subst e
    rw [if_pos rfl]
    by_cases hi : i < 512
    · rw [if_pos hi, if_neg (by omega), if_pos (by omega)]
      congr 1; omega
    · rw [if_neg hi, List.getElem?_eq_none (by omega)]
  · rw [if_neg e, sec_at]
    by_cases hi : i < 512
    · rw [if_pos hi, if_pos hi]
      by_cases h2 : 512 * k + i < 512 * j
      · rw [if_pos h2]
      · rw [if_neg h2, if_neg (by omega)]
    · rw [if_neg hi, if_neg hi]
theorem all_secs (p q : List UInt8) (hp : p.length = 4096) (hq : q.length = 4096) (h : ∀ k, k < 8 → sec p k = sec q k) : p = q := by
  apply List.ext_getElem?
  intro i
  by_cases hi : i < 4096
  · have h1 := congrArg (fun l : List UInt8 => l[i % 512]?) (h (i / 512) (by omega))
    simp only [sec_at] at h1
    rw [if_pos (Nat.mod_lt _ (by omega)), if_pos (Nat.mod_lt _ (by omega)), Nat.div_add_mod] at h1
    exact h1
  · rw [List.getElem?_eq_none (by omega), List.getElem?_eq_none (by omega)]
theorem mark_sec (l : List UInt8) (k : Nat) : Frm.mark l k = (sec l k).take 8 := by
  unfold Frm.mark sec
  rw [List.take_take]
  rfl

/-- Bit k of a mask. -/
def mb (m k : Nat) : Prop := m / 2 ^ k % 2 = 1
instance (m k : Nat) : Decidable (mb m k) := by unfold mb; infer_instance
/-- x, but of the first n sectors those that the mask names are y's. -/
def mixTo (x y : List UInt8) (m : Nat) : Nat → List UInt8
  | 0 => x
  | n + 1 => if mb m n then splice (mixTo x y m n) (512 * n) (sec y n) else mixTo x y m n
theorem length_mix (x y : List UInt8) (m : Nat) (hx : x.length = 4096) (hy : y.length = 4096) : ∀ n, n ≤ 8 → (mixTo x y m n).length = 4096
  | 0, _ => hx
  | n + 1, h => by
    have ih := length_mix x y m hx hy n (by omega)
    unfold mixTo
    split
    · rw [length_splice _ _ _ (by rw [length_sec y n hy (by omega)]; omega), ih]
    · exact ih
theorem sec_mix (x y : List UInt8) (m : Nat) (hx : x.length = 4096) (hy : y.length = 4096) (k : Nat) (hk : k < 8) : ∀ n, n ≤ 8 → sec (mixTo x y m n) k = if k < n ∧ mb m k then sec y k else sec x k
  | 0, _ => by rw [if_neg (by omega)]; rfl
  | n + 1, h => by
    have ih := sec_mix x y m hx hy k hk n (by omega)
    have hlen := length_mix x y m hx hy n (by omega)
    unfold mixTo
    by_cases hb : mb m n
    · rw [if_pos hb, sec_splice _ _ n k hlen (length_sec y n hy (by omega)) (by omega) hk]
      by_cases e : k = n
      · subst e
        rw [if_pos rfl, if_pos ⟨by omega, hb⟩]
      · rw [if_neg e, ih]
        by_cases h2 : k < n ∧ mb m k
        · rw [if_pos h2, if_pos ⟨by omega, h2.2⟩]
        · rw [if_neg h2, if_neg (fun h3 => h2 ⟨by omega, h3.2⟩)]
    · rw [if_neg hb, ih]
      by_cases h2 : k < n ∧ mb m k
      · rw [if_pos h2, if_pos ⟨by omega, h2.2⟩]
      · rw [if_neg h2, if_neg (fun h3 => h2 ⟨by
          have : k ≠ n := fun e => hb (e ▸ h3.2)
          omega, h3.2⟩)]
theorem mark_mix (x y : List UInt8) (m : Nat) (hx : x.length = 4096) (hy : y.length = 4096) (k : Nat) (hk : k < 8) : Frm.mark (mixTo x y m 8) k = if mb m k then Frm.mark y k else Frm.mark x k := by
  rw [mark_sec, sec_mix x y m hx hy k hk 8 (by omega), mark_sec, mark_sec]
  by_cases h : mb m k
  · rw [if_pos ⟨hk, h⟩, if_pos h]
  · rw [if_neg (fun h2 => h h2.2), if_neg h]
theorem mix_none (x y : List UInt8) (hx : x.length = 4096) (hy : y.length = 4096) : mixTo x y 0 8 = x := by
  refine all_secs _ _ (length_mix x y 0 hx hy 8 (by omega)) hx fun k hk => ?_
  rw [sec_mix x y 0 hx hy k hk 8 (by omega), if_neg (fun h => by have := h.2; unfold mb at this; simp at this)]
theorem mix_all (x y : List UInt8) (hx : x.length = 4096) (hy : y.length = 4096) : mixTo x y 255 8 = y := by
  refine all_secs _ _ (length_mix x y 255 hx hy 8 (by omega)) hy fun k hk => ?_
  have hb : mb 255 k := by
    unfold mb
    rcases (show k = 0 ∨ k = 1 ∨ k = 2 ∨ k = 3 ∨ k = 4 ∨ k = 5 ∨ k = 6 ∨ k = 7 by omega) with rfl | rfl | rfl | rfl | rfl | rfl | rfl | rfl <;> decide
  rw [sec_mix x y 255 hx hy k hk 8 (by omega), if_pos ⟨hk, hb⟩]
theorem mb_some (m : Nat) (hm : m < 256) (h : m ≠ 0) : ∃ k, k < 8 ∧ mb m k := by
  unfold mb
  by_cases h0 : m / 2 ^ 0 % 2 = 1; · exact ⟨0, by omega, h0⟩
  by_cases h1 : m / 2 ^ 1 % 2 = 1; · exact ⟨1, by omega, h1⟩
  by_cases h2 : m / 2 ^ 2 % 2 = 1; · exact ⟨2, by omega, h2⟩
  by_cases h3 : m / 2 ^ 3 % 2 = 1; · exact ⟨3, by omega, h3⟩
  by_cases h4 : m / 2 ^ 4 % 2 = 1; · exact ⟨4, by omega, h4⟩
  by_cases h5 : m / 2 ^ 5 % 2 = 1; · exact ⟨5, by omega, h5⟩
  by_cases h6 : m / 2 ^ 6 % 2 = 1; · exact ⟨6, by omega, h6⟩
  by_cases h7 : m / 2 ^ 7 % 2 = 1; · exact ⟨7, by omega, h7⟩
  simp only [Nat.reducePow] at *
  omega
theorem mb_not (m : Nat) (hm : m < 256) (h : m ≠ 255) : ∃ k, k < 8 ∧ ¬ mb m k := by
  obtain ⟨k, hk, hb⟩ := mb_some (255 - m) (by omega) (by omega)
  refine ⟨k, hk, ?_⟩
  unfold mb at *
  rcases (show k = 0 ∨ k = 1 ∨ k = 2 ∨ k = 3 ∨ k = 4 ∨ k = 5 ∨ k = 6 ∨ k = 7 by omega) with rfl | rfl | rfl | rfl | rfl | rfl | rfl | rfl <;> simp only [Nat.reducePow] at * <;> omega
theorem newestTo_le (l : List UInt8) (M n : Nat) (h : ∀ k, k < n → val (Frm.mark l k) ≤ M) : Frm.newestTo l n ≤ M := by
  induction n with
  | zero => exact Nat.zero_le _
  | succ n ih => exact Nat.max_le.2 ⟨ih (fun k hk => h k (by omega)), h n (by omega)⟩
theorem newestTo_ge (l : List UInt8) (n k : Nat) (h : k < n) : val (Frm.mark l k) ≤ Frm.newestTo l n := by
  induction n with
  | zero => omega
  | succ n ih =>
    show _ ≤ max _ _
    by_cases e : k = n
    · subst e; exact Nat.le_max_right _ _
    · exact Nat.le_trans (ih (by omega)) (Nat.le_max_left _ _)
theorem mark_frame (a k s : Nat) (b : List UInt8) (j : Nat) (hb : b.length ≤ 4011) (hj : j < 8) : Frm.mark (Frm.frame a k s b) j = be 8 s := Frm.mark_page _ _ j hj (length_be 8 s) (Frm.length_inside _ _ _ _ hb)
/-- A torn page. -/
theorem torn_frames (a k s t : Nat) (x y : List UInt8) (m : Nat) (hx : x.length ≤ 4011) (hy : y.length ≤ 4011) (hs : s < 18446744073709551616) (ht : t < 18446744073709551616) (hst : s ≠ t) (hm : m < 256) (h0 : m ≠ 0) (h1 : m ≠ 255) (i : Int) (j : Nat) :
    Frm.newest (mixTo (Frm.frame a k s x) (Frm.frame a k t y) m 8) = max s t ∧ ¬ gets (mixTo (Frm.frame a k s x) (Frm.frame a k t y) m 8) i j := by
  have lx := Frm.length_frame a k s x hx
  have ly := Frm.length_frame a k t y hy
  have hmk : ∀ q, q < 8 → Frm.mark (mixTo (Frm.frame a k s x) (Frm.frame a k t y) m 8) q = if mb m q then be 8 t else be 8 s := fun q hq => by
    rw [mark_mix _ _ m lx ly q hq, mark_frame a k t y q hy hq, mark_frame a k s x q hx hq]
  have hlz := length_mix (Frm.frame a k s x) (Frm.frame a k t y) m lx ly 8 (by omega)
  generalize mixTo (Frm.frame a k s x) (Frm.frame a k t y) m 8 = z at hmk hlz
  obtain ⟨p, hp, hbp⟩ := mb_some m hm h0
  obtain ⟨q, hq, hbq⟩ := mb_not m hm h1
  have ep := hmk p hp
  have eq := hmk q hq
  rw [if_pos hbp] at ep
  rw [if_neg hbq] at eq
  constructor
  · unfold Frm.newest
    rw [if_pos hlz]
    have g1 := newestTo_ge z 8 p hp
    have g2 := newestTo_ge z 8 q hq
    rw [ep, Frm.val_be8 t ht] at g1
    rw [eq, Frm.val_be8 s hs] at g2
    have g3 := newestTo_le z (max s t) 8 (fun r hr => by
      rw [hmk r hr]
      split
      · rw [Frm.val_be8 t ht]; exact Nat.le_max_right _ _
      · rw [Frm.val_be8 s hs]; exact Nat.le_max_left _ _)
    omega
  · intro hg
    have w1 := Frm.mark_whole z i.toNat j p hg.2 hp
    have w2 := Frm.mark_whole z i.toNat j q hg.2 hq
    have e := congrArg val ((ep.symm.trans w1).trans (w2.symm.trans eq))
    rw [Frm.val_be8 t ht, Frm.val_be8 s hs] at e
    exact hst e.symm

theorem bv_one (v : Value) (s : List UInt8) (h : v ∈ s.map bv) : v.oneCell' = true := by
  simp only [List.mem_map] at h
  obtain ⟨x, _, rfl⟩ := h
  rfl
/-- Copy of bytes into a row that is the call's own. -/
theorem run_copy_own (W : World) (ty : TypeId) (g o dLen dCap c base : Nat) (p s : List UInt8) (hown : Mem.Own 5 W base (.slice (some ⟨g, 0, none⟩) p.length c) p) (A : Option Addr) (m cs B : Nat) (hr : Rd W B A cs s) (h0 : 0 < s.length) (hm : m = s.length) (n : Nat) (hn : n = min s.length dLen) (hfit : o + n ≤ p.length) :
    ∃ W', (Builtin.copy_ #[36, 36] ty #[.slice (some ⟨g, o, none⟩) dLen dCap, .slice A m cs]).run Tryz.prog W = .ok (.int .i64 (n : Int)) W' ∧ Mem.Own 5 W' base (.slice (some ⟨g, 0, none⟩) p.length c) (splice p o (s.take n)) ∧ W.grownBy W' (some g) := by
  subst hm
  obtain ⟨ab, ao, rfl, _⟩ := hr.2.2.2 h0
  rcases hown.2 with ⟨e, _⟩ | ⟨g', cap, cur, e, hb, hh, h1, h2, h3, h4⟩
  · cases e
  injection e with e1 _ e3
  injection e1 with e1
  injection e1 with e1
  subst e1 e3
  have hls : (s.take n).length = n := by rw [List.length_take]; omega
  have h := run_copy_row (P := Tryz.prog) W 36 36 ty 5 g o dLen dCap ⟨ab, ao, none⟩ s.length cs cur 5 ((s.take n).map bv) Tryz.underlying36 u8_size hh (by rw [List.length_map, hls]; exact hn)
    (fun j v hv => by
      have hj : j < n := by
        rcases Nat.lt_or_ge j n with h | h
        · exact h
        · rw [List.getElem?_eq_none (by rw [List.length_map, hls]; exact h)] at hv; cases hv
      obtain ⟨b, o', e, _, hc⟩ := hr.2.2.2 h0
      injection e with e
      injection e with e5 e6
      subst e5 e6
      rw [show (⟨ab, ao, none⟩ : Addr).add j = ⟨ab, ao + j, none⟩ by unfold Addr.add; split <;> simp_all, hc j (by omega)]
      rw [List.getElem?_map, List.getElem?_take_of_lt hj, List.getElem?_eq_getElem (by omega)] at hv
      exact hv)
    (by rw [List.length_map, hls, h3]; omega) (fun v hv => bv_one v _ hv)
  rw [List.length_map, hls] at h
  refine ⟨_, h, ?_, grown_setRow _ _ _⟩
  have hsp : (splice p o (s.take n)).length = p.length := length_splice _ _ _ (by rw [hls]; exact hfit)
  have hcl : cur.toList.length = c := by rw [Array.length_toList, h3, Nat.mul_one]
  refine ⟨by rw [List.length_map, Nat.mul_one], .inr ⟨g, c, _, by rw [hsp], hb, setRow_heap' _ _ _ _ _ _ hh, by rw [hsp]; exact h1, h2, ?_, ?_⟩⟩
  · rw [Nat.mul_one, List.size_toArray, List.length_append, List.length_append, List.length_take, List.length_map, hls, List.length_drop, hcl]
    omega
  · rw [hsp, Nat.mul_one] at *
    apply List.ext_getElem?
    intro i
    rw [List.getElem?_map, splice_at _ _ _ (by rw [hls]; exact hfit), hls]
    have hp : ∀ i, i < p.length → cur.toList[i]? = (p[i]?).map bv := fun i hi => by
      rw [← List.getElem?_map, ← h4, List.getElem?_take_of_lt hi]
    by_cases hi : i < p.length
    · rw [List.getElem?_take_of_lt hi]
      have hto : (cur.toList.take o).length = o := by rw [List.length_take]; omega
      rw [List.append_assoc]
      by_cases c1 : i < o
      · rw [if_pos c1, List.getElem?_append_left (by omega), List.getElem?_take_of_lt c1, hp i hi]
      · rw [if_neg c1, List.getElem?_append_right (by omega), hto]
        by_cases c2 : i < o + n
        · rw [if_pos c2, List.getElem?_append_left (by rw [List.length_map, hls]; omega), List.getElem?_map]
        · rw [if_neg c2, List.getElem?_append_right (by rw [List.length_map, hls]; omega), List.length_map, hls, List.getElem?_drop, ← hp i hi]
          exact congrArg (fun z => cur.toList[z]?) (by omega)
    · rw [List.getElem?_eq_none (by rw [List.length_take]; omega), if_neg (by omega), if_neg (by omega), List.getElem?_eq_none (by omega)]
      rfl
end Go.Proofs.YtnpebfolmdbipaaGreatDoor.Fm
