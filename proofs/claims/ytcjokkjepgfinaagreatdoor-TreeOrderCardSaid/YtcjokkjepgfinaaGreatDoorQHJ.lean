import Derived.Test.YtcjokkjepgfinaaGreatDoorQHI
set_option linter.unusedVariables false
set_option linter.unusedSimpArgs false
namespace Go.Proofs.YtcjokkjepgfinaaGreatDoor.Tr
set_option maxRecDepth 8000
open Go.RowKit Mem Sk
open Dk (Fr)
section
variable {B : Nat} {W w w' : World} {sb db : Nat} {y y' : SLay} {s s' : Sto} {yd yd' : Dk.Lay} {d d' : Dk.Dsk} {m m' : Nat} {F G : Nat → Prop} {N : Nat} {v : Value} {key : By}
theorem hcf_get (caps : Array Value) (X : World) : (callFunc 37 caps).run Tryz.prog X = .ok (.enter 37 caps) X := by
  go_simp
theorem Below.butt {P : Nat → Prop} {w0 w1 w2 : World} (h : Below w0.heap.size w0 w1) (k : But P w1 w2) (hP : ∀ q, P q → w0.heap.size ≤ q) : Below w0.heap.size w0 w2 :=
  ⟨k.os.trans h.os, k.tape.trans h.tape, k.output.trans h.output, Nat.le_trans h.size k.size, fun q hq => (k.block q (Nat.lt_of_lt_of_le hq h.size) (fun e => by have := hP q e; omega)).trans (h.block q hq)⟩
structure Got (w0 w' : World) (b2 b3 : Nat) (has : Bool) (o : Option By) (v : Value) : Prop where
  v2 : VN w' b2 [.bool has]
  v3 : VN w' b3 [v]
  own : ∀ l', o = some l' → Mem.Own 5 w' (w0.heap.size + 1) v l'
  no : o = none → v = .slice none 0 0
  form : ∃ A n c, v = .slice A n c
  but : But (fun q => q = b2 ∨ q = b3) w0 w'
theorem get1_got {A3 : Option Addr} {c3 k p : Nat} {l : Its k} {w1 : World} (bo : Bo B W w sb db y yd s d m) (hg : Sk.gone s d = false) (t : TreeIn s d k p l) (h3 : RdF w (fun _ => False) (.slice A3 key.length c3) key)
    {b0 b1 b2 b3 : Nat} {x : Bool} (v0 : VN w b0 [pt sb]) (v1 : VN w b1 [.slice A3 key.length c3]) (v2 : VN w b2 [.bool x]) (v3 : VN w b3 [.slice none 0 0]) (h23 : b2 ≠ b3) (h02 : b0 ≠ b2) (h12 : b1 ≠ b2) (hb : Below w.heap.size w w1) (hlt : w.heap.size < w1.heap.size) :
    Calls Tryz.prog 37 #[.pointer (some ⟨b0, 0, none⟩), .pointer (some ⟨b1, 0, none⟩), .pointer (some ⟨b2, 0, none⟩), .pointer (some ⟨b3, 0, none⟩)] w1 fun e w' => e = .returned (.tuple #[]) ∧
      (∃ v, Got w w' b2 b3 (hasK (prs k l) key) (getK (prs k l) key) v) ∧ w1.heap.size ≤ w'.heap.size ∧ w'.heap[w.heap.size]? = w1.heap[w.heap.size]? := by
  refine (get1_any (bo.keep hb) hg t (h3.bel hb) (v0.bel hb) (v1.bel hb) (v2.bel hb) (v3.bel hb) h23 h02 h12).mono ?_
  rintro e w' ⟨rfl, v, g1, g2, g3, g4, g5⟩
  have l2 := v2.lt
  have l3 := v3.lt
  refine ⟨rfl, ⟨v, g1, g2, fun l' e => ?_, g4, ?_, (But.bel hb).trans g5⟩, g5.size, g5.block _ hlt (fun e => by rcases e with e | e <;> omega)⟩
  · have hO := g3 l' e
    exact ⟨hO.1, hO.2.imp id fun ⟨g, cap, cur, h1, h2, h3⟩ => ⟨g, cap, cur, h1, Nat.le_trans hlt h2, h3⟩⟩
  · cases e : getK (prs k l) key with
    | none => exact ⟨none, 0, 0, g4 e⟩
    | some l' => obtain ⟨A, c, rfl, _⟩ := (g3 l' e).form; exact ⟨_, _, _, rfl⟩
set_option maxHeartbeats 8000000 in
theorem get_any {A3 : Option Addr} {c3 k p : Nat} {l : Its k} (bo : Bo B W w sb db y yd s d m) (hg : Sk.gone s d = false) (t : TreeIn s d k p l) (h3 : RdF w (fun _ => False) (.slice A3 key.length c3) key) :
    Calls Tryz.prog 16 #[pt sb, .slice A3 key.length c3] w fun e w' =>
      ∃ v, e = .returned (.tuple #[v, .bool (hasK (prs k l) key), .int .i64 0]) ∧ (∀ l', getK (prs k l) key = some l' → Mem.Own 5 w' w.heap.size v l') ∧ (getK (prs k l) key = none → v = .slice none 0 0) ∧ Below w.heap.size w w' := by
  obtain ⟨W0, hW0⟩ : ∃ X, X = (((w.alloc (.cells #[pt sb] 23)).alloc (.cells #[.slice A3 key.length c3] 32)).alloc (.cells #[.slice none 0 0] 32)).alloc (.cells #[.bool false] 4) := ⟨_, rfl⟩
  have hs0 : W0.heap.size = w.heap.size + 4 := by rw [hW0]; simp
  have B0 : Below w.heap.size w W0 := hW0 ▸ (((box1 w _).alloc (by simp) _).alloc (by simp; omega) _).alloc (by simp; omega) _
  have X0 : VN W0 w.heap.size [pt sb] := hW0 ▸ (((VN.new w _ _).alloc _).alloc _).alloc _
  have X1 : VN W0 (w.heap.size + 1) [.slice A3 key.length c3] := by
    have := ((VN.new (w.alloc (.cells #[pt sb] 23)) #[.slice A3 key.length c3] 32).alloc (.cells #[.slice none 0 0] 32)).alloc (.cells #[.bool false] 4)
    rw [hW0]; simpa using this
  have X3 : VN W0 (w.heap.size + 2) [.slice none 0 0] := by
    have := (VN.new ((w.alloc (.cells #[pt sb] 23)).alloc (.cells #[.slice A3 key.length c3] 32)) #[.slice none 0 0] 32).alloc (.cells #[.bool false] 4)
    rw [hW0]; simpa using this
  have X2 : VN W0 (w.heap.size + 3) [.bool false] := by
    have := VN.new (((w.alloc (.cells #[pt sb] 23)).alloc (.cells #[.slice A3 key.length c3] 32)).alloc (.cells #[.slice none 0 0] 32)) #[.bool false] 4
    rw [hW0]; simpa using this
  have C := Lib.hid (caught_ok (bo.keep B0) hg (f := 37) (hcf_get _) (fun w1 hb hlt => get1_got (bo.keep B0) hg t (h3.bel B0) X0 X1 X2 X3 (by omega) (by omega) (by omega) hb hlt))
  have HB0 := Lib.hid B0
  have HS := Lib.hid hs0
  have HW0 := Lib.hid hW0
  generalize hasK (prs k l) key = hk at C ⊢
  generalize getK (prs k l) key = gk at C ⊢
  clear bo hg t h3 X0 X1 X2 X3 B0 hs0 hW0
  have hmf : ∀ (fn : Fn) (first cap : Array Value) (w : World), (Instr.makeFunc fn first cap).run Tryz.prog w = .ok (.func fn first cap) w := fun _ _ _ _ => rfl
  go_enter Tryz.func16, Tryz.ntmps16
  go_wp2_with fail
  rw [← HW0.out]
  refine C.out.mono ?_
  rintro e w5 ⟨rfl, w4, ⟨v, hgot⟩, hO⟩
  obtain ⟨A, n, c, rfl⟩ := hgot.form
  have l2 := hgot.v2.lt
  have l3 := hgot.v3.lt
  have hss := HS.out
  have Y2 := Lib.hid (hgot.v2.of_block (hO.block _ (by omega)) (Nat.le_of_eq hO.size.symm))
  have Y3 := Lib.hid (hgot.v3.of_block (hO.block _ (by omega)) (Nat.le_of_eq hO.size.symm))
  have a2 : w5.cell? ⟨w.heap.size + 1 + 1 + 1, 0, none⟩ = some (.bool hk) := Y2.out.c 0 _ rfl
  have a3 : w5.cell? ⟨w.heap.size + 1 + 1, 0, none⟩ = some (.slice A n c) := Y3.out.c 0 _ rfl
  have GG := Lib.hid hgot
  have OO := Lib.hid hO
  clear hgot hO l2 l3 hss
  go_wp2_with fail
  go_region
  go_wp2_with fail
  go_ret3
  have hs := HS.out
  have BB : Below w.heap.size w w5 := OO.out.bel (Below.butt HB0.out GG.out.but (fun q h => by rcases h with h | h <;> omega)) (by omega)
  refine ⟨_, rfl, fun l' e => ?_, GG.out.no, BB.drew⟩
  have hO := GG.out.own l' e
  have hO2 : Mem.Own 5 w4 w.heap.size _ _ := ⟨hO.1, hO.2.imp id fun ⟨g, cap, cur, h1, h2, h3⟩ => ⟨g, cap, cur, h1, by omega, h3⟩⟩
  exact Dk.owns_of_block hO2 fun g hg => OO.out.block g (fun e => by have := (World.ownsRow.lt hO g hg).1; omega)
set_option maxHeartbeats 8000000 in
theorem get_not {ps : Option Addr} {n : Int} (hn : n ≠ 1) {A3 : Option Addr} {n3 c3 : Nat} (hr : ∀ X, Below w.heap.size w X → Calls Tryz.prog 57 #[.pointer ps, .int .i64 0] X fun e w' => e = .returned (.tuple #[.slice none 0 0, .int .i64 n]) ∧ Below X.heap.size X w') :
    Calls Tryz.prog 16 #[.pointer ps, .slice A3 n3 c3] w fun e w' => e = .returned (.tuple #[.slice none 0 0, .bool false, .int .i64 n]) ∧ Below w.heap.size w w' := by
  obtain ⟨W0, hW0⟩ : ∃ X, X = (((w.alloc (.cells #[.pointer ps] 23)).alloc (.cells #[.slice A3 n3 c3] 32)).alloc (.cells #[.slice none 0 0] 32)).alloc (.cells #[.bool false] 4) := ⟨_, rfl⟩
  have hs0 : W0.heap.size = w.heap.size + 4 := by rw [hW0]; simp
  have B0 : Below w.heap.size w W0 := hW0 ▸ (((box1 w _).alloc (by simp) _).alloc (by simp; omega) _).alloc (by simp; omega) _
  have X0 : VN W0 w.heap.size [.pointer ps] := hW0 ▸ (((VN.new w _ _).alloc _).alloc _).alloc _
  have X1 : VN W0 (w.heap.size + 1) [.slice A3 n3 c3] := by
    have := ((VN.new (w.alloc (.cells #[.pointer ps] 23)) #[.slice A3 n3 c3] 32).alloc (.cells #[.slice none 0 0] 32)).alloc (.cells #[.bool false] 4)
    rw [hW0]; simpa using this
  have X3 : VN W0 (w.heap.size + 2) [.slice none 0 0] := by
    have := (VN.new ((w.alloc (.cells #[.pointer ps] 23)).alloc (.cells #[.slice A3 n3 c3] 32)) #[.slice none 0 0] 32).alloc (.cells #[.bool false] 4)
    rw [hW0]; simpa using this
  have X2 : VN W0 (w.heap.size + 3) [.bool false] := by
    have := VN.new (((w.alloc (.cells #[.pointer ps] 23)).alloc (.cells #[.slice A3 n3 c3] 32)).alloc (.cells #[.slice none 0 0] 32)) #[.bool false] 4
    rw [hW0]; simpa using this
  have C := Lib.hid (fun fv => caught_not (w := W0) (sv := .pointer ps) (fv := fv) hn (fun X hb => hr X (B0.trans (hb.mono B0.size))))
  have HB0 := Lib.hid B0
  have HS := Lib.hid hs0
  have HW0 := Lib.hid hW0
  have Y2 := Lib.hid X2
  have Y3 := Lib.hid X3
  clear hr hn X0 X1 X2 X3 B0 hs0 hW0
  have hmf : ∀ (fn : Fn) (first cap : Array Value) (w : World), (Instr.makeFunc fn first cap).run Tryz.prog w = .ok (.func fn first cap) w := fun _ _ _ _ => rfl
  go_enter Tryz.func16, Tryz.ntmps16
  go_wp2_with fail
  rw [← HW0.out]
  refine (C.out _).mono ?_
  rintro e w5 ⟨rfl, hb⟩
  have Z2 := Lib.hid (Y2.out.bel hb)
  have Z3 := Lib.hid (Y3.out.bel hb)
  have a2 : w5.cell? ⟨w.heap.size + 1 + 1 + 1, 0, none⟩ = some (.bool false) := Z2.out.c 0 _ rfl
  have a3 : w5.cell? ⟨w.heap.size + 1 + 1, 0, none⟩ = some (.slice none 0 0) := Z3.out.c 0 _ rfl
  have B5 := Lib.hid (HB0.out.trans (hb.mono HB0.out.size))
  clear hb
  go_wp2_with fail
  go_region
  go_wp2_with fail
  go_ret3
  exact ⟨rfl, B5.out.drew⟩
end
end Go.Proofs.YtcjokkjepgfinaaGreatDoor.Tr
