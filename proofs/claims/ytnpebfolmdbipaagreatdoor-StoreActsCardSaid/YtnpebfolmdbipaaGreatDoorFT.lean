import Derived.Test.YtnpebfolmdbipaaGreatDoorFB
namespace Go.Proofs.YtnpebfolmdbipaaGreatDoor.Fm
open Go.RowKit Mem

/-- Some sectors of a page are a frame's, of a stamp above all that the others begin with. -/
structure Mix (O N z : List UInt8) (p : Nat → Prop) : Prop where
  lo : O.length = 4096
  ln : N.length = 4096
  lz : z.length = 4096
  yes : ∀ q, q < 8 → p q → sec z q = sec N q
  no : ∀ q, q < 8 → ¬ p q → sec z q = sec O q
theorem Mix.all {O N z : List UInt8} {p : Nat → Prop} (h : Mix O N z p) (hp : ∀ q, q < 8 → p q) : z = N := all_secs _ _ h.lz h.ln fun q hq => h.yes q hq (hp q hq)
theorem Mix.none {O N z : List UInt8} {p : Nat → Prop} (h : Mix O N z p) (hp : ∀ q, q < 8 → ¬ p q) : z = O := all_secs _ _ h.lz h.lo fun q hq => h.no q hq (hp q hq)
theorem Mix.newest_le {O N z : List UInt8} {p : Nat → Prop} (h : Mix O N z p) : Frm.newest z ≤ max (Frm.newest O) (Frm.newest N) := by
  unfold Frm.newest
  rw [if_pos h.lz, if_pos h.lo, if_pos h.ln]
  refine newestTo_le z _ 8 fun q hq => ?_
  by_cases hp : p q
  · have := newestTo_ge N 8 q hq
    rw [mark_sec, h.yes q hq hp, ← mark_sec]
    omega
  · have := newestTo_ge O 8 q hq
    rw [mark_sec, h.no q hq hp, ← mark_sec]
    omega
/-- Such a page is whole only if all of its sectors are the frame's, or none. -/
theorem Mix.torn {O z b : List UInt8} {p : Nat → Prop} {a k t : Nat} (h : Mix O (Frm.frame a k t b) z p) (hb : b.length ≤ 4011) (ht : t < 18446744073709551616) (hlt : Frm.newest O < t) (hy : ∃ q, q < 8 ∧ p q) (hn : ∃ q, q < 8 ∧ ¬ p q) (i : Int) (j : Nat) : Frm.newest z = t ∧ ¬ gets z i j := by
  obtain ⟨q, hq, hpq⟩ := hy
  obtain ⟨r, hr, hpr⟩ := hn
  have m1 : Frm.mark z q = be 8 t := by rw [mark_sec, h.yes q hq hpq, ← mark_sec, mark_frame a k t b q hb hq]
  have m2 : Frm.mark z r = Frm.mark O r := by rw [mark_sec, h.no r hr hpr, ← mark_sec]
  have e1 := h.newest_le
  have e2 : Frm.newest (Frm.frame a k t b) = t := Frm.newest_frame a k t b hb ht
  have e3 : val (Frm.mark O r) ≤ Frm.newest O := by unfold Frm.newest; rw [if_pos h.lo]; exact newestTo_ge O 8 r hr
  have e4 : t ≤ Frm.newest z := by
    have := newestTo_ge z 8 q hq
    rw [m1, Frm.val_be8 t ht] at this
    unfold Frm.newest; rw [if_pos h.lz]; exact this
  have e5 : Frm.newest z = t := by omega
  refine ⟨e5, fun hg => ?_⟩
  have w2 := Frm.mark_whole z i.toNat j r hg.2 hr
  rw [m2, e5] at w2
  have := congrArg val w2
  rw [Frm.val_be8 t ht] at this
  omega
/-- Two frames that are one hold the same. -/
theorem frame_same {a k s s' : Nat} {b b' : List UInt8} (hb : b.length ≤ 4011) (hb' : b'.length ≤ 4011) (hs : s < 18446744073709551616) (hs' : s' < 18446744073709551616) (e : Frm.frame a k s b = Frm.frame a k s' b') : b = b' ∧ s = s' := by
  have h1 := congrArg Frm.held e
  have h2 := congrArg Frm.newest e
  rw [Frm.held_frame _ _ _ _ hb, Frm.held_frame _ _ _ _ hb'] at h1
  rw [Frm.newest_frame _ _ _ _ hb hs, Frm.newest_frame _ _ _ _ hb' hs'] at h2
  exact ⟨h1, h2⟩
end Go.Proofs.YtnpebfolmdbipaaGreatDoor.Fm
