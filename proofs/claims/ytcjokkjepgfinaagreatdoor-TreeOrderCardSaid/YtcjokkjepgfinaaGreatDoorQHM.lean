import Derived.Test.YtcjokkjepgfinaaGreatDoorQHJ
set_option linter.unusedVariables false
set_option linter.unusedSimpArgs false
namespace Go.Proofs.YtcjokkjepgfinaaGreatDoor.Tr
set_option maxRecDepth 8000
open Go.RowKit Mem Sk
open Dk (Fr)
section
variable {w w' : World}
set_option maxHeartbeats 4000000 in
theorem put_not {ps : Option Addr} {n : Int} (hn : n ≠ 1) {A1 A2 : Option Addr} {n1 n2 c1 c2 : Nat} (hr : ∀ X, Below w.heap.size w X → Calls Tryz.prog 57 #[.pointer ps, .int .i64 0] X fun e w' => e = .returned (.tuple #[.slice none 0 0, .int .i64 n]) ∧ Below X.heap.size X w') :
    Calls Tryz.prog 11 #[.pointer ps, .slice A1 n1 c1, .slice A2 n2 c2] w fun e w' => e = .returned (.int .i64 n) ∧ Below w.heap.size w w' := by
  obtain ⟨W0, hW0⟩ : ∃ X, X = ((w.alloc (.cells #[.pointer ps] 23)).alloc (.cells #[.slice A1 n1 c1] 32)).alloc (.cells #[.slice A2 n2 c2] 32) := ⟨_, rfl⟩
  have B0 : Below w.heap.size w W0 := hW0 ▸ ((box1 w _).alloc (by simp) _).alloc (by simp; omega) _
  have C := Lib.hid (fun fv => caught_not (w := W0) (sv := .pointer ps) (fv := fv) hn (fun X hb => hr X (B0.trans (hb.mono B0.size))))
  have HB0 := Lib.hid B0
  have HW0 := Lib.hid hW0
  clear hr hn B0 hW0
  have hmf : ∀ (fn : Fn) (first cap : Array Value) (w : World), (Instr.makeFunc fn first cap).run Tryz.prog w = .ok (.func fn first cap) w := fun _ _ _ _ => rfl
  go_enter Tryz.func11, Tryz.ntmps11
  go_wp2_with fail
  rw [← HW0.out]
  refine (C.out _).mono ?_
  rintro e w5 ⟨rfl, hb⟩
  have B5 := Lib.hid (HB0.out.trans (hb.mono HB0.out.size))
  clear hb
  go_wp2_with fail
  go_ret
  exact ⟨rfl, B5.out⟩
set_option maxHeartbeats 4000000 in
theorem delete_not {ps : Option Addr} {n : Int} (hn : n ≠ 1) {A1 : Option Addr} {n1 c1 : Nat} (hr : ∀ X, Below w.heap.size w X → Calls Tryz.prog 57 #[.pointer ps, .int .i64 0] X fun e w' => e = .returned (.tuple #[.slice none 0 0, .int .i64 n]) ∧ Below X.heap.size X w') :
    Calls Tryz.prog 14 #[.pointer ps, .slice A1 n1 c1] w fun e w' => e = .returned (.tuple #[.bool false, .int .i64 n]) ∧ Below w.heap.size w w' := by
  obtain ⟨W0, hW0⟩ : ∃ X, X = ((w.alloc (.cells #[.pointer ps] 23)).alloc (.cells #[.slice A1 n1 c1] 32)).alloc (.cells #[.bool false] 4) := ⟨_, rfl⟩
  have B0 : Below w.heap.size w W0 := hW0 ▸ ((box1 w _).alloc (by simp) _).alloc (by simp; omega) _
  have X2 : VN W0 (w.heap.size + 2) [.bool false] := by
    have := VN.new ((w.alloc (.cells #[.pointer ps] 23)).alloc (.cells #[.slice A1 n1 c1] 32)) #[.bool false] 4
    rw [hW0]; simpa using this
  have Y2 := Lib.hid X2
  have C := Lib.hid (fun fv => caught_not (w := W0) (sv := .pointer ps) (fv := fv) hn (fun X hb => hr X (B0.trans (hb.mono B0.size))))
  have HB0 := Lib.hid B0
  have HW0 := Lib.hid hW0
  clear hr hn B0 hW0 X2
  have hmf : ∀ (fn : Fn) (first cap : Array Value) (w : World), (Instr.makeFunc fn first cap).run Tryz.prog w = .ok (.func fn first cap) w := fun _ _ _ _ => rfl
  go_enter Tryz.func14, Tryz.ntmps14
  go_wp2_with fail
  rw [← HW0.out]
  refine (C.out _).mono ?_
  rintro e w5 ⟨rfl, hb⟩
  have Z2 := Lib.hid (Y2.out.bel hb)
  have a2 : w5.cell? ⟨w.heap.size + 1 + 1, 0, none⟩ = some (.bool false) := Z2.out.c 0 _ rfl
  have B5 := Lib.hid (HB0.out.trans (hb.mono HB0.out.size))
  clear hb
  go_wp2_with fail
  first | go_ret2 | (go_region; go_wp2_with fail; go_ret2)
  first | exact ⟨rfl, B5.out⟩ | exact ⟨rfl, B5.out.drew⟩
set_option maxHeartbeats 4000000 in
theorem range_not {ps : Option Addr} {n : Int} (hn : n ≠ 1) (hn0 : n ≠ 0) {A1 A2 : Option Addr} {n1 n2 c1 c2 : Nat} (hr : ∀ X, Below w.heap.size w X → Calls Tryz.prog 57 #[.pointer ps, .int .i64 0] X fun e w' => e = .returned (.tuple #[.slice none 0 0, .int .i64 n]) ∧ Below X.heap.size X w') :
    Calls Tryz.prog 17 #[.pointer ps, .slice A1 n1 c1, .slice A2 n2 c2] w fun e w' => e = .returned (.tuple #[.slice none 0 0, .int .i64 n]) ∧ Below w.heap.size w w' := by
  obtain ⟨W0, hW0⟩ : ∃ X, X = ((w.alloc (.cells #[.pointer ps] 23)).alloc (.cells #[.slice none 0 0] 43)).alloc (.cells #[.slice A1 n1 c1, .slice A2 n2 c2] 72) := ⟨_, rfl⟩
  have B0 : Below w.heap.size w W0 := hW0 ▸ ((box1 w _).alloc (by simp) _).alloc (by simp; omega) _
  have C := Lib.hid (fun fv => caught_not (w := W0) (sv := .pointer ps) (fv := fv) hn (fun X hb => hr X (B0.trans (hb.mono B0.size))))
  have HB0 := Lib.hid B0
  have HW0 := Lib.hid hW0
  have hne : (n != 0) = true := by simpa using hn0
  clear hr hn B0 hW0 hn0
  have hmf : ∀ (fn : Fn) (first cap : Array Value) (w : World), (Instr.makeFunc fn first cap).run Tryz.prog w = .ok (.func fn first cap) w := fun _ _ _ _ => rfl
  go_enter Tryz.func17, Tryz.ntmps17
  go_wp2_with fail
  rw [← HW0.out]
  refine (C.out _).mono ?_
  rintro e w5 ⟨rfl, hb⟩
  have B5 := Lib.hid (HB0.out.trans (hb.mono HB0.out.size))
  clear hb
  go_wp2_with fail
  first | go_ret2 | (go_region; go_wp2_with fail; go_ret2)
  first | exact ⟨rfl, B5.out⟩ | exact ⟨rfl, B5.out.drew⟩
end
section
variable {w w' : World}
set_option maxHeartbeats 4000000 in
theorem size_not {ps : Option Addr} {n : Int} (hn : n ≠ 1) (hn0 : n ≠ 0) (hr : ∀ X, Below w.heap.size w X → Calls Tryz.prog 57 #[.pointer ps, .int .i64 0] X fun e w' => e = .returned (.tuple #[.slice none 0 0, .int .i64 n]) ∧ Below X.heap.size X w') :
    Calls Tryz.prog 22 #[.pointer ps] w fun e w' => e = .returned (.tuple #[.int .i64 0, .int .i64 0, .int .i64 0, .int .i64 n]) ∧ Below w.heap.size w w' := by
  obtain ⟨W0, hW0⟩ : ∃ X, X = (((w.alloc (.cells #[.pointer ps] 23)).alloc (.cells #[.int .i64 0] 3)).alloc (.cells #[.int .i64 0] 3)).alloc (.cells #[.int .i64 0] 3) := ⟨_, rfl⟩
  have B0 : Below w.heap.size w W0 := hW0 ▸ (((box1 w _).alloc (by simp) _).alloc (by simp; omega) _).alloc (by simp; omega) _
  have X1 : VN W0 (w.heap.size + 1) [.int .i64 0] := by
    have := ((VN.new (w.alloc (.cells #[.pointer ps] 23)) #[.int .i64 0] 3).alloc (.cells #[.int .i64 0] 3)).alloc (.cells #[.int .i64 0] 3)
    rw [hW0]; simpa using this
  have X2 : VN W0 (w.heap.size + 2) [.int .i64 0] := by
    have := (VN.new ((w.alloc (.cells #[.pointer ps] 23)).alloc (.cells #[.int .i64 0] 3)) #[.int .i64 0] 3).alloc (.cells #[.int .i64 0] 3)
    rw [hW0]; simpa using this
  have X3 : VN W0 (w.heap.size + 3) [.int .i64 0] := by
    have := VN.new (((w.alloc (.cells #[.pointer ps] 23)).alloc (.cells #[.int .i64 0] 3)).alloc (.cells #[.int .i64 0] 3)) #[.int .i64 0] 3
    rw [hW0]; simpa using this
  have C := Lib.hid (fun fv => caught_not (w := W0) (sv := .pointer ps) (fv := fv) hn (fun X hb => hr X (B0.trans (hb.mono B0.size))))
  have HB0 := Lib.hid B0
  have HW0 := Lib.hid hW0
  have Y1 := Lib.hid X1
  have Y2 := Lib.hid X2
  have Y3 := Lib.hid X3
  have hne : (n != 0) = true := by simpa using hn0
  clear hr hn B0 hW0 hn0 X1 X2 X3
  have hmf : ∀ (fn : Fn) (first cap : Array Value) (w : World), (Instr.makeFunc fn first cap).run Tryz.prog w = .ok (.func fn first cap) w := fun _ _ _ _ => rfl
  go_enter Tryz.func22, Tryz.ntmps22
  go_wp2_with fail
  rw [← HW0.out]
  refine (C.out _).mono ?_
  rintro e w5 ⟨rfl, hb⟩
  have Z1 := Lib.hid (Y1.out.bel hb)
  have Z2 := Lib.hid (Y2.out.bel hb)
  have Z3 := Lib.hid (Y3.out.bel hb)
  have a1 : w5.cell? ⟨w.heap.size + 1, 0, none⟩ = some (.int .i64 0) := Z1.out.c 0 _ rfl
  have a2 : w5.cell? ⟨w.heap.size + 1 + 1, 0, none⟩ = some (.int .i64 0) := Z2.out.c 0 _ rfl
  have a3 : w5.cell? ⟨w.heap.size + 1 + 1 + 1, 0, none⟩ = some (.int .i64 0) := Z3.out.c 0 _ rfl
  have z1 : w5.frozen? ⟨w.heap.size + 1, 0, none⟩ = false := Z1.out.z 0
  have z2 : w5.frozen? ⟨w.heap.size + 1 + 1, 0, none⟩ = false := Z2.out.z 0
  have z3 : w5.frozen? ⟨w.heap.size + 1 + 1 + 1, 0, none⟩ = false := Z3.out.z 0
  have B5 := Lib.hid (HB0.out.trans (hb.mono HB0.out.size))
  clear hb
  go_wp2_with fail
  have hs := HB0.out.size
  have BB : Below w.heap.size w (((w5.setCell ⟨w.heap.size + 1, 0, none⟩ (.int .i64 0)).setCell ⟨w.heap.size + 1 + 1, 0, none⟩ (.int .i64 0)).setCell ⟨w.heap.size + 1 + 1 + 1, 0, none⟩ (.int .i64 0)) :=
    bel_set (bel_set (bel_set B5.out (by omega) _) (by omega) _) (by omega) _
  simp [bodyPost, results, Tryz.results22, go_sem, a1, a2, a3, z1, z2, z3]
  exact BB
end
theorem cnt_mem {q k : Nat} {l : Its (k + 1)} {x : By × T k} (h : x ∈ l) : cntT q x.2 ≤ cnt q (k + 1) l := by
  obtain ⟨a, b, rfl⟩ := List.append_of_mem h
  rw [cnt_app, cnt_cons]
  omega
theorem cnt_pg {q k : Nat} {l : Its (k + 1)} {x : By × T k} (h : x ∈ l) (hq : pg x.2 = some q) : 0 < cnt q (k + 1) l := by
  have := cnt_mem (q := q) h
  unfold cntT at this
  rw [if_pos hq] at this
  omega
theorem sumTo_bool (f : Nat → Bool) (n : Nat) : sumTo (fun q => (f q).toNat) n ≤ n := by
  induction n with
  | zero => exact Nat.le_refl _
  | succ n ih =>
    show sumTo (fun q => (f q).toNat) n + (f n).toNat ≤ n + 1
    have := Bool.toNat_le (f n)
    omega
theorem page_ok {s : Sto} {d : Dk.Dsk} (hg : Sk.gone s d = false) (h : SGood s) {q : Nat} {l : By} (hq : s.cur.now.has q = true) (hf : rdOf s d q = some l) : PageOk s d q l := by
  have hv := h.view s.us.length
  rw [view_len] at hv
  have h1 := (hv.has q hq).2
  have h2 := h.n5
  refine ⟨?_, hf⟩
  unfold ansRd
  rw [hg, hasI_nat _ _ (by omega), hq, Int.toNat_natCast, hf]
  rfl
theorem pgs_of {s : Sto} {d : Dk.Dsk} (hg : Sk.gone s d = false) (h : SGood s) {k : Nat} {l : Its k} (ho : Old k l) (hr : Rep (rdOf s d) k l) (hc : ∀ q, 0 < cnt q k l → s.cur.now.has q = true) : Pgs s d k l := by
  induction k with
  | zero => trivial
  | succ k ih =>
    intro x hx
    obtain ⟨⟨p, hp, h1, h2⟩, h3⟩ := ho x hx
    obtain ⟨r1, r2⟩ := hr x hx
    refine ⟨⟨p, hp, h1, h2, page_ok hg h (hc p (cnt_pg hx hp)) (r1 p hp)⟩, ih h3 r2 fun q hq => hc q ?_⟩
    have := cnt_mem (q := q) hx
    unfold cntT at this
    omega
theorem has_of {root : Nat} {has : Nat → Bool} {f : Nat → Option By} {k : Nat} {l : Its k} (h : IsT root has f k l) {q : Nat} (hq : 0 < cnt q k l) : has q = true := by
  have := h.cnt q
  rcases e : has q with _ | _
  · rw [e] at this; simp at this; omega
  · rfl
theorem has_root {root : Nat} {has : Nat → Bool} {f : Nat → Option By} {k : Nat} {l : Its k} (h : IsT root has f k l) : has root = true := by
  have := h.cnt root
  rw [if_pos rfl] at this
  rcases e : has root with _ | _
  · rw [e] at this; simp at this
  · rfl
theorem TreeIn.of {s : Sto} {d : Dk.Dsk} (hg : Sk.gone s d = false) (h : SGood s) {k : Nat} {l : Its k} (t : IsT s.cur.now.root s.cur.now.has (rdOf s d) k l) : TreeIn s d k s.cur.now.root l := by
  have hv := h.view s.us.length
  rw [view_len] at hv
  have h2 := h.n5
  have hlev := t.level (N := 4096) (fun q hq => by have := (hv.has q hq).2; omega)
  have hle := sumTo_bool s.cur.now.has 4096
  have hk : k < 256 := by
    have h3 : k < 2 ^ k := Nat.lt_two_pow_self
    rcases Nat.lt_or_ge k 13 with h4 | h4
    · omega
    · have := Nat.pow_le_pow_right (n := 2) (by omega) h4
      omega
  exact ⟨rfl, hk, pgs_of hg h t.old t.rep (fun q hq => has_of t hq), .inr ⟨t.r0, t.ok, page_ok hg h (has_root t) t.top⟩⟩
theorem TreeOf.into {s : Sto} {d : Dk.Dsk} (hg : Sk.gone s d = false) (h : SGood s) {L : List It} (t : TreeOf s.cur.now.root s.cur.now.has (rdOf s d) L) : ∃ k l, TreeIn s d k s.cur.now.root l ∧ prs k l = L := by
  rcases t with ⟨h0, rfl, _⟩ | ⟨k, l, h1, h2⟩
  · exact ⟨0, [], ⟨rfl, by omega, trivial, .inl ⟨h0, rfl, rfl⟩⟩, rfl⟩
  · exact ⟨k, l, TreeIn.of hg h h1, h2⟩
section
variable {B : Nat} {W w w' : World} {sb db : Nat} {y y' : SLay} {s s' : Sto} {yd yd' : Dk.Lay} {d d' : Dk.Dsk} {m m' : Nat} {key : By}
theorem Get_tree {A3 : Option Addr} {c3 : Nat} {L : List It} (bo : Bo B W w sb db y yd s d m) (hg : Sk.gone s d = false) (t : TreeOf s.cur.now.root s.cur.now.has (rdOf s d) L) (h3 : RdF w (fun _ => False) (.slice A3 key.length c3) key) :
    Calls Tryz.prog 16 #[pt sb, .slice A3 key.length c3] w fun e w' =>
      ∃ v, e = .returned (.tuple #[v, .bool (hasK L key), .int .i64 0]) ∧ (∀ l', getK L key = some l' → Mem.Own 5 w' w.heap.size v l') ∧ (getK L key = none → v = .slice none 0 0) ∧ Below w.heap.size w w' := by
  obtain ⟨k, l, ht, rfl⟩ := t.into hg bo.good
  exact get_any bo hg ht h3
end
end Go.Proofs.YtcjokkjepgfinaaGreatDoor.Tr
