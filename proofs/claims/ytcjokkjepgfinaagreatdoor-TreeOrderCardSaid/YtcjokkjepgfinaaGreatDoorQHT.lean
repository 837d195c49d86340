import Derived.Test.YtcjokkjepgfinaaGreatDoorQHR
set_option linter.unusedVariables false
set_option linter.unusedSimpArgs false
namespace Go.Proofs.YtcjokkjepgfinaaGreatDoor.Tr
set_option maxRecDepth 8000
open Go.RowKit Mem Sk
open Dk (Fr)
def iw : (k : Nat) → Kid k → Nat
  | 0, _ => 0
  | k + 1, t => if pg t = none then 1 + wk k (sub t) else 0
theorem wk_snoc {k : Nat} (l : Its k) (x : By × Kid k) : wk k (l ++ [x]) = wk k l + iw k x.2 := by
  rw [wk_app]
  cases k with
  | zero => rfl
  | succ k => rw [wk_cons]; show _ + (_ + wk (k + 1) []) = _; rw [show wk (k + 1) [] = 0 from rfl]; rfl
theorem wk_take {k : Nat} (l : Its k) (j : Nat) (h : j < l.length) : wk k (l.take (j + 1)) = wk k (l.take j) + iw k l[j].2 := by
  rw [List.take_succ_eq_append_getElem h, wk_snoc]
theorem wk_take_le {k : Nat} (l : Its k) (j : Nat) : wk k (l.take j) ≤ wk k l := by
  have : wk k l = wk k (l.take j ++ l.drop j) := by rw [List.take_append_drop]
  rw [this, wk_app]; omega
section
variable {F : Nat → Prop} {N : Nat}
theorem Ent.rform {s : Bool} {w : World} {k : Nat} {x : Kid k} {rv mv : Value} (h : Ent s w F N k x rv mv) : ∃ A n c, rv = .slice A n c := by
  cases k with
  | zero => obtain ⟨A, c, e⟩ := h.1.form; exact ⟨A, _, c, e⟩
  | succ k =>
    rcases h with ⟨_, h2, _⟩ | ⟨_, h2, _⟩
    · obtain ⟨A, c, e⟩ := h2.form; exact ⟨A, _, c, e⟩
    · exact h2
theorem wanted_nil (w : World) : Calls Tryz.prog 94 #[.pointer none] w fun e w' => e = .returned (.int .i64 0) ∧ Below w.heap.size w w' := by
  go_enter Tryz.func94, Tryz.ntmps94
  go_wp2
  go_ret
  exact ⟨rfl, Below.refl _ _⟩
set_option maxHeartbeats 4000000 in
theorem wanted_node {s : Bool} {k b : Nat} {l : Its k} {iv : Value} {w : World} (hn : NodeW w F N b k iv) (hi : ItsAt s w F N k iv l) (hs : wk k l ≤ 1000000)
    (hkid : ∀ (W : World) (x : By × Kid k) (p : V3), EntR s W F N k p x → iw k x.2 ≤ 1000000 → Calls Tryz.prog 94 #[p.2.2] W fun e w' => e = .returned (.int .i64 (iw k x.2 : Nat)) ∧ Below W.heap.size W w') :
    Calls Tryz.prog 94 #[.pointer (some ⟨b, 0, none⟩)] w fun e w' => e = .returned (.int .i64 ((1 + wk k l : Nat) : Int)) ∧ Below w.heap.size w w' := by
  obtain ⟨A, c, ts, rfl, hr, ha⟩ := hi.vals
  have hlen : ts.length = l.length := ha.1
  have hcap := hr.1
  have hmax := hr.2.1
  have g4 := hn.c4
  have HR := Lib.hid hr; have HA := Lib.hid ha; have HK := Lib.hid hkid; have HL := Lib.hid hlen
  have hcapi : (l.length : Int) ≤ 9223372036854775807 := by unfold maxLen at hmax; omega
  clear hr ha hkid hlen hi hcap hmax
  go_enter Tryz.func94, Tryz.ntmps94
  go_wp2_with fail
  go_loopw [3, 13] (fun sm i wr => ∃ j : Nat, j ≤ l.length ∧ i = .int .i64 j ∧ sm = .int .i64 ((1 + wk k (l.take j) : Nat) : Int) ∧ Hid (Below w.heap.size w wr)) (fun _ i _ => l.length - (intOf i).toNat)
  case atStart => exact ⟨0, Nat.zero_le _, rfl, by cases k <;> rfl, Lib.hid (Below.refl _ _)⟩
  case round =>
    obtain ⟨j, hj, rfl, rfl, HB⟩ := hrel
    by_cases hlt : j < l.length
    · have hj2 : j < ts.length := by rw [HL.out]; exact hlt
      obtain ⟨⟨kv, rv, mv⟩, hp⟩ : ∃ p, ts[j]? = some p := ⟨_, List.getElem?_eq_getElem hj2⟩
      obtain ⟨b', o, rfl, hb', hcs⟩ := HR.out.2.2.2.2 (by omega)
      obtain ⟨g1, g2, g3⟩ := hcs j _ hp
      have hE := HA.out.2 j _ _ hp (List.getElem?_eq_getElem hlt)
      obtain ⟨Ak, ck, rfl⟩ : ∃ A c, kv = .slice A l[j].1.length c := hE.1.form
      obtain ⟨Ar, nr, cr, rfl⟩ : ∃ A n c, rv = .slice A n c := hE.2.rform
      obtain ⟨q, rfl⟩ : ∃ q, mv = .pointer q := hE.2.ptr
      have g1' := (bcellT HB.out b' (o + j * 3) hb').trans g1
      have g2' := (bcellT HB.out b' (o + j * 3 + 1) hb').trans g2
      have g3' := (bcellT HB.out b' (o + j * 3 + 2) hb').trans g3
      have hiw : wk k (l.take (j + 1)) = wk k (l.take j) + iw k l[j].2 := wk_take l j hlt
      have hile := wk_take_le l (j + 1)
      have C := Lib.hid (fun W (hb : Below w.heap.size w W) => HK.out W l[j] _ (hE.kf (kfb hb)) (by omega))
      have hw : wrap64 (((1 + wk k (l.take j) : Nat) : Int) + (iw k l[j].2 : Nat)) = ((1 + wk k (l.take (j + 1)) : Nat) : Int) := by unfold wrap64; omega
      have h3i : (j : Int) < (ts.length : Int) := by omega
      have HW := Lib.hid hw
      clear hE hcs hp g1 g2 g3 hile hiw
      generalize l[j].1.length = nk at *
      generalize iw k l[j].2 = y at *
      generalize hs1 : (1 + wk k (l.take j)) = s1 at *
      go_wp2_with (go_at_call 94; refine (C.out _ (HB.out.trans ((box1 _ _).mono HB.out.size))).mono ?_; rintro e w1 ⟨rfl, hb1⟩; have B1 := Lib.hid hb1; clear hb1)
      go_roundw
      case rel => exact ⟨j + 1, by omega, by go_num, by rw [HW.out], Lib.hid (HB.out.trans ((box1 _ _).trans (B1.out.mono (by simp)) |>.mono HB.out.size))⟩
      case measure => simp [intOf]; omega
    · obtain rfl : j = l.length := by omega
      simp only [List.take_length]
      have h3i : ¬ ((l.length : Nat) : Int) < (ts.length : Int) := by have := HL.out; omega
      go_wp2
      go_ret
      exact ⟨rfl, HB.out⟩
theorem wanted_kid (s : Bool) : ∀ (k : Nat) (W : World) (x : By × Kid k) (p : V3), EntR s W F N k p x → iw k x.2 ≤ 1000000 → Calls Tryz.prog 94 #[p.2.2] W fun e w' => e = .returned (.int .i64 (iw k x.2 : Nat)) ∧ Below W.heap.size W w'
  | 0, W, x, p, h, _ => by
    have e : p.2.2 = .pointer none := h.2.2
    rw [e]
    exact wanted_nil W
  | k + 1, W, x, p, h, hs => by
    rcases h.2 with ⟨h1, h2, h3⟩ | ⟨h1, _, _, b, iv, h4, h5, h6⟩
    · have e0 : iw (k + 1) x.2 = 0 := (if_neg h1 : (if pg x.2 = none then 1 + wk k (sub x.2) else 0) = 0)
      rw [h3, e0]
      exact wanted_nil W
    · have e0 : iw (k + 1) x.2 = 1 + wk k (sub x.2) := (if_pos h1 : (if pg x.2 = none then 1 + wk k (sub x.2) else 0) = 1 + wk k (sub x.2))
      rw [e0] at hs ⊢
      rw [h4]
      exact wanted_node h5 h6 (by omega) (wanted_kid s k)
end
end Go.Proofs.YtcjokkjepgfinaaGreatDoor.Tr
