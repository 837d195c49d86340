import Derived.Test.YtcjokkjepgfinaaGreatDoorQHR
import Derived.Test.YtcjokkjepgfinaaGreatDoorQHC
set_option linter.unusedVariables false
set_option linter.unusedSimpArgs false
namespace Go.Proofs.YtcjokkjepgfinaaGreatDoor.Tr
set_option maxRecDepth 8000
open Go.RowKit Mem Sk
open Dk (Fr)
def EdB (cb : Nat) (gv : Value) : Nat → Prop := fun b => b = cb ∨ gv.ownBlock = some b
structure Ed (w : World) (base cb sb : Nat) (gv : Value) (g : List Nat) : Prop where
  lt : cb < w.heap.size
  c0 : w.cell? ⟨cb, 0, none⟩ = some (pt sb)
  c1 : w.cell? ⟨cb, 1, none⟩ = some gv
  z : ∀ i, w.frozen? ⟨cb, i, none⟩ = false
  own : Dk.OwnI w base gv (g.map fun n : Nat => (n : Int))
  ne : gv.ownBlock ≠ some cb
section
variable {w w' : World} {base cb sb : Nat} {gv : Value} {g : List Nat}
theorem Ed.bel (h : Ed w base cb sb gv g) (hb : Below w.heap.size w w') : Ed w' base cb sb gv g :=
  have e := hb.block cb h.lt
  ⟨Nat.lt_of_lt_of_le h.lt hb.size, (World.cell?_of_block e).trans h.c0, (World.cell?_of_block e).trans h.c1, fun i => (frozen_of_block e i).trans (h.z i), h.own.below hb (Nat.le_refl _), h.ne⟩
theorem Ed.foot (h : Ed w base cb sb gv g) : ∀ b, EdB cb gv b → b < w.heap.size := fun b hb => by
  rcases hb with rfl | hb
  · exact h.lt
  · exact (World.ownsRow.lt h.own b hb).2
theorem Kf.side {H E E' : Nat → Prop} (h : Kf E w w' E') : Kf (fun b => H b ∨ E b) w w' (fun b => H b ∨ E' b) :=
  ⟨⟨h.fr.os, h.fr.tape, h.fr.output, h.fr.size, fun k hk hn => h.fr.block k hk fun e => hn (.inr e)⟩, fun k hk hg => hg.elim .inl fun e => .inr (h.foot k hk e)⟩
set_option maxHeartbeats 4000000 in
theorem drop_any (E : Ed w base cb sb gv g) (hbase : base ≤ w.heap.size) {p : Nat} (hp : 0 < p) (hp9 : p ≤ 1000000) (hg : g.length ≤ 1000) (k : Int) (A2 A3 A4 : Option Addr) (n2 n3 n4 c2 c3 c4 : Nat) :
    Calls Tryz.prog 63 #[.pointer (some ⟨cb, 0, none⟩), .agg #[.int .i64 (p : Int), .int .i64 k, .slice A2 n2 c2, .slice A3 n3 c3, .slice A4 n4 c4]] w fun e w' =>
      e = .returned (.agg #[.int .i64 (p : Int), .int .i64 k, .slice A2 n2 c2, .slice A3 n3 c3, .slice A4 n4 c4]) ∧ ∃ gv', Ed w' base cb sb gv' (g ++ [p]) ∧ Kf (EdB cb gv) w w' (EdB cb gv') := by
  have hp' : (((p : Nat) : Int) != 0) = true := by simp; omega
  obtain ⟨Ag, cg, rfl, hrg, hlg, _⟩ := E.own.form
  rw [List.length_map] at E hlg ⊢
  obtain ⟨V, hV⟩ : ∃ X, X = (w.alloc (.cells #[.int .i64 (p : Int), .int .i64 k, .slice A2 n2 c2, .slice A3 n3 c3, .slice A4 n4 c4] 75)).alloc (.cells #[.int .i64 0, .int .i64 0, .slice none 0 0, .slice none 0 0, .slice none 0 0] 75) := ⟨_, rfl⟩
  have B0 := Lib.hid (show Below w.heap.size w V from hV ▸ (box1 w _).alloc (by simp) _)
  have R1 := Lib.hid (show VN V w.heap.size [.int .i64 (p : Int), .int .i64 k, .slice A2 n2 c2, .slice A3 n3 c3, .slice A4 n4 c4] from hV ▸ (VN.new w _ _).alloc _)
  have R2 := Lib.hid (show VN V (w.heap.size + 1) [.int .i64 0, .int .i64 0, .slice none 0 0, .slice none 0 0, .slice none 0 0] from by
    have := VN.new (w.alloc (.cells #[.int .i64 (p : Int), .int .i64 k, .slice A2 n2 c2, .slice A3 n3 c3, .slice A4 n4 c4] 75)) #[.int .i64 0, .int .i64 0, .slice none 0 0, .slice none 0 0, .slice none 0 0] 75
    rw [hV]; simpa using this)
  have EV := Lib.hid (E.bel B0.out)
  have HV := Lib.hid hV
  have hl0 := E.lt
  have hsV : V.heap.size = w.heap.size + 1 + 1 := by rw [hV, World.size_alloc, World.size_alloc]
  have hfoot := E.foot
  clear hV
  -- the append
  have hBA : Below V.heap.size V (V.drew.alloc (.cells #[.int .i64 (p : Int)] 3)) := (Below.refl V.heap.size V).drew.alloc (Nat.le_refl _) _
  obtain ⟨v', w2, hrun, ho2, hg2, hat2⟩ := Dk.run_append_i (V.drew.alloc (.cells #[.int .i64 (p : Int)] 3)) 104 base (.slice Ag g.length cg) (g.map fun n : Nat => (n : Int)) (EV.out.own.below hBA (Nat.le_refl _)) (V.heap.size + 1) (some ⟨V.heap.size, 0, none⟩) 1 [(p : Int)]
    ⟨Nat.le_refl _, by unfold maxLen; omega, (fun e => by cases e), fun _ => ⟨V.heap.size, 0, rfl, by omega, fun j hj => by
      have : j = 0 := by simp at hj; omega
      subst this
      exact Dk.cell_alloc_new V.drew (.int .i64 (p : Int)) 3⟩⟩ (by simp; omega) (by have := hBA.size; omega)
  obtain ⟨A1, c1, hv', hr1, hlt1, hs1⟩ := ho2.form
  have hl1 : ((g.map fun n : Nat => (n : Int)) ++ [(p : Int)]).length = g.length + 1 := by simp
  rw [hl1] at hv'
  subst hv'
  have hgb : ∀ b, (Value.slice Ag g.length cg).ownBlock = some b → b < w.heap.size := fun b hb => hfoot b (.inr hb)
  have hszA : (V.drew.alloc (.cells #[.int .i64 (p : Int)] 3)).heap.size = w.heap.size + 1 + 1 + 1 := by rw [World.size_alloc]; show V.heap.size + 1 = _; rw [hsV]
  have hne' : (Value.slice A1 (g.length + 1) c1).ownBlock ≠ some cb := fun e => by
    rcases hat2 with h2 | h2
    · exact E.ne (h2 ▸ e)
    · rw [h2, hszA] at e; injection e with e; omega
  have hcb2 : w2.heap[cb]? = V.heap[cb]? := (hg2.block cb (by omega) (fun e => EV.out.ne e.symm)).trans (hBA.block cb (by omega))
  have t0 : w2.cell? ⟨cb, 0, none⟩ = some (pt sb) := (World.cell?_of_block (w := V) hcb2).trans EV.out.c0
  have t1 : w2.cell? ⟨cb, 1, none⟩ = some (.slice Ag g.length cg) := (World.cell?_of_block (w := V) hcb2).trans EV.out.c1
  have tz : ∀ i, w2.frozen? ⟨cb, i, none⟩ = false := fun i => (frozen_of_block hcb2 i).trans (EV.out.z i)
  have N1 : VN w2 w.heap.size [.int .i64 (p : Int), .int .i64 k, .slice A2 n2 c2, .slice A3 n3 c3, .slice A4 n4 c4] := (R1.out.bel hBA).grown hg2 (fun e => by have := hgb _ e; omega)
  have N2 : VN w2 (w.heap.size + 1) [.int .i64 0, .int .i64 0, .slice none 0 0, .slice none 0 0, .slice none 0 0] := (R2.out.bel hBA).grown hg2 (fun e => by have := hgb _ e; omega)
  obtain ⟨w3, hw3⟩ : ∃ X, X = w2.setCell ⟨cb, 1, none⟩ (.slice A1 (g.length + 1) c1) := ⟨_, rfl⟩
  have M1 : VN w3 w.heap.size [.int .i64 (p : Int), .int .i64 k, .slice A2 n2 c2, .slice A3 n3 c3, .slice A4 n4 c4] := hw3 ▸ N1.other (by show cb ≠ _; omega) _
  have M2 : VN w3 (w.heap.size + 1) [.int .i64 0, .int .i64 0, .slice none 0 0, .slice none 0 0, .slice none 0 0] := hw3 ▸ N2.other (by show cb ≠ _; omega) _
  have O3 : Only cb w2 w3 := hw3 ▸ (Only.refl cb w2).set 1 _
  have O4 := Only.set5 (w.heap.size + 1) w3 (.int .i64 (p : Int)) (.int .i64 k) (.slice A2 n2 c2) (.slice A3 n3 c3) (.slice A4 n4 c4)
  have Z4 := Lib.hid (M2.set5 (.int .i64 (p : Int)) (.int .i64 k) (.slice A2 n2 c2) (.slice A3 n3 c3) (.slice A4 n4 c4))
  have HE : Hid (Ed (((((w3.setCell ⟨w.heap.size + 1, 0, none⟩ (.int .i64 (p : Int))).setCell ⟨w.heap.size + 1, 1, none⟩ (.int .i64 k)).setCell ⟨w.heap.size + 1, 2, none⟩ (.slice A2 n2 c2)).setCell ⟨w.heap.size + 1, 3, none⟩ (.slice A3 n3 c3)).setCell ⟨w.heap.size + 1, 4, none⟩ (.slice A4 n4 c4)) base cb sb (.slice A1 (g.length + 1) c1) (g ++ [p]) ∧
      Kf (EdB cb (.slice Ag g.length cg)) w (((((w3.setCell ⟨w.heap.size + 1, 0, none⟩ (.int .i64 (p : Int))).setCell ⟨w.heap.size + 1, 1, none⟩ (.int .i64 k)).setCell ⟨w.heap.size + 1, 2, none⟩ (.slice A2 n2 c2)).setCell ⟨w.heap.size + 1, 3, none⟩ (.slice A3 n3 c3)).setCell ⟨w.heap.size + 1, 4, none⟩ (.slice A4 n4 c4)) (EdB cb (.slice A1 (g.length + 1) c1))) := by
    have h24 : ∀ q, q ≠ cb → q ≠ w.heap.size + 1 → (((((w3.setCell ⟨w.heap.size + 1, 0, none⟩ (.int .i64 (p : Int))).setCell ⟨w.heap.size + 1, 1, none⟩ (.int .i64 k)).setCell ⟨w.heap.size + 1, 2, none⟩ (.slice A2 n2 c2)).setCell ⟨w.heap.size + 1, 3, none⟩ (.slice A3 n3 c3)).setCell ⟨w.heap.size + 1, 4, none⟩ (.slice A4 n4 c4)).heap[q]? = w2.heap[q]? := fun q h1 h2 => (O4.block q h2).trans (O3.block q h1)
    have c34 := O4.block cb (by omega)
    have hs4 := O4.size.trans O3.size
    have hs2 := hg2.size
    have hown' : ∀ b, (Value.slice A1 (g.length + 1) c1).ownBlock = some b → b ≠ w.heap.size + 1 ∧ b < w2.heap.size := fun b hb => by
      refine ⟨fun e => ?_, (hlt1 b hb).2⟩
      rcases hat2 with h2 | h2
      · have := hgb b (h2 ▸ hb); omega
      · rw [h2, hszA] at hb; injection hb with hb; omega
    refine Lib.hid ⟨⟨by rw [hs4]; omega, ?_, ?_, ?_, ?_, hne'⟩, ⟨⟨?_, ?_, ?_, by rw [hs4]; omega, fun q hq hn => ?_⟩, fun q hq hf => ?_⟩⟩
    · rw [World.cell?_of_block (a := ⟨cb, 0, none⟩) c34, hw3]
      exact (World.cell?_setCell_other _ _ _ _ (by simp)).trans t0
    · rw [World.cell?_of_block (a := ⟨cb, 1, none⟩) c34, hw3]
      exact World.cell?_setCell_same _ _ _ t1
    · intro i
      rw [frozen_of_block c34 i, hw3]
      exact (World.frozen?_setCell _ _ _ _).trans (tz i)
    · have e : (g ++ [p]).map (fun n : Nat => (n : Int)) = (g.map fun n : Nat => (n : Int)) ++ [(p : Int)] := by simp
      rw [e]
      exact Dk.owns_of_block ho2 fun b hb => h24 b (fun e => hne' (e ▸ hb)) (hown' b hb).1
    · exact O4.os.trans (O3.os.trans (hg2.os.trans (hBA.os.trans B0.out.os)))
    · exact O4.tape.trans (O3.tape.trans (hg2.tape.trans (hBA.tape.trans B0.out.tape)))
    · exact O4.output.trans (O3.output.trans (hg2.output.trans (hBA.output.trans B0.out.output)))
    · exact (h24 q (fun e => hn (.inl e)) (by omega)).trans ((hg2.block q (by omega) (fun e => hn (.inr e.symm))).trans ((hBA.block q (by omega)).trans (B0.out.block q hq)))
    · rcases hf with hf | hf
      · exact .inl hf
      · rcases hat2 with h2 | h2
        · exact .inr (h2 ▸ hf)
        · rw [h2, hszA] at hf; injection hf with hf; omega
  have a1 := EV.out.c1
  have a0 := R1.out.c 0 _ rfl
  have tz1 := tz 1
  have b0 := M1.c 0 _ rfl
  have b1 := M1.c 1 _ rfl
  have b2 := M1.c 2 _ rfl
  have b3 := M1.c 3 _ rfl
  have b4 := M1.c 4 _ rfl
  have r0 := M2.c 0 _ rfl
  have r1 := M2.c 1 _ rfl
  have r2 := M2.c 2 _ rfl
  have r3 := M2.c 3 _ rfl
  have r4 := M2.c 4 _ rfl
  have z0 := M2.z 0
  have z1 := M2.z 1
  have z2 := M2.z 2
  have z3 := M2.z 3
  have z4 := M2.z 4
  have HW3 := Lib.hid hw3
  have x1 := Dk.cell_alloc a1 (.cells #[.int .i64 (p : Int)] 3)
  have hrun' : Sem.run Tryz.prog (Builtin.append_ #[104, 104] 104 #[.slice Ag g.length cg, .slice (some ⟨V.heap.size, 0, none⟩) 1 1]) (V.alloc (.cells #[.int .i64 (p : Int)] 3)).drew = .ok (.slice A1 (g.length + 1) c1) w2 := hrun
  have HX := Lib.hid hrun'
  clear hrun hrun' hw3 N1 N2 M1 M2 O3 O4 hBA ho2 hg2 hat2 hr1 hlt1 hs1 hl1 hgb hszA hne' hcb2 tz t0 hsV hfoot hrg hlg E
  generalize g.length = gl at *
  go_enter Tryz.func63, Tryz.ntmps63
  go_wp2_with fail
  rw [← HV.out]
  go_region_law (refine Dk.step_append_run rfl (.tmp 12) (.tmp 15) 104 rfl (.slice Ag gl cg) (.slice (some ⟨V.heap.size, 0, none⟩) 1 1) (by simp [Act.eval, Act.put]) (by simp [Act.eval, Act.put]) HX.out ?_)
  all_goals
    rw [← HW3.out]
    go_wp2_with fail
    refine bodyPost_ret (results_c rfl (w.heap.size + 1) [.int .i64 (p : Int), .int .i64 k, .slice A2 n2 c2, .slice A3 n3 c3, .slice A4 n4 c4] _ rfl Z4.out.range Tryz.underlying75 rfl info_node) rfl ?_
    exact ⟨rfl, _, HE.out.1, HE.out.2⟩
set_option maxHeartbeats 4000000 in
theorem drop0_any (w : World) (q : Option Addr) (k : Int) (A2 A3 A4 : Option Addr) (n2 n3 n4 c2 c3 c4 : Nat) :
    Calls Tryz.prog 63 #[.pointer q, .agg #[.int .i64 0, .int .i64 k, .slice A2 n2 c2, .slice A3 n3 c3, .slice A4 n4 c4]] w fun e w' =>
      e = .returned (.agg #[.int .i64 0, .int .i64 k, .slice A2 n2 c2, .slice A3 n3 c3, .slice A4 n4 c4]) ∧ Below w.heap.size w w' := by
  obtain ⟨V, hV⟩ : ∃ X, X = (w.alloc (.cells #[.int .i64 0, .int .i64 k, .slice A2 n2 c2, .slice A3 n3 c3, .slice A4 n4 c4] 75)).alloc (.cells #[.int .i64 0, .int .i64 0, .slice none 0 0, .slice none 0 0, .slice none 0 0] 75) := ⟨_, rfl⟩
  have B0 := Lib.hid (show Below w.heap.size w V from hV ▸ (box1 w _).alloc (by simp) _)
  have R1 : VN V w.heap.size [.int .i64 0, .int .i64 k, .slice A2 n2 c2, .slice A3 n3 c3, .slice A4 n4 c4] := hV ▸ (VN.new w _ _).alloc _
  have R2 : VN V (w.heap.size + 1) [.int .i64 0, .int .i64 0, .slice none 0 0, .slice none 0 0, .slice none 0 0] := by
    have := VN.new (w.alloc (.cells #[.int .i64 0, .int .i64 k, .slice A2 n2 c2, .slice A3 n3 c3, .slice A4 n4 c4] 75)) #[.int .i64 0, .int .i64 0, .slice none 0 0, .slice none 0 0, .slice none 0 0] 75
    rw [hV]; simpa using this
  have HV := Lib.hid hV
  have Z4 := Lib.hid (R2.set5 (.int .i64 0) (.int .i64 k) (.slice A2 n2 c2) (.slice A3 n3 c3) (.slice A4 n4 c4))
  have HB := Lib.hid ((Only.set5 (w.heap.size + 1) V (.int .i64 0) (.int .i64 k) (.slice A2 n2 c2) (.slice A3 n3 c3) (.slice A4 n4 c4)).bel B0.out (by omega))
  have b0 := R1.c 0 _ rfl
  have b1 := R1.c 1 _ rfl
  have b2 := R1.c 2 _ rfl
  have b3 := R1.c 3 _ rfl
  have b4 := R1.c 4 _ rfl
  have r0 := R2.c 0 _ rfl
  have r1 := R2.c 1 _ rfl
  have r2 := R2.c 2 _ rfl
  have r3 := R2.c 3 _ rfl
  have r4 := R2.c 4 _ rfl
  have z0 := R2.z 0
  have z1 := R2.z 1
  have z2 := R2.z 2
  have z3 := R2.z 3
  have z4 := R2.z 4
  clear R1 R2 hV
  go_enter Tryz.func63, Tryz.ntmps63
  go_wp2_with (rw [← HV.out])
  refine bodyPost_ret (results_c rfl (w.heap.size + 1) [.int .i64 0, .int .i64 k, .slice A2 n2 c2, .slice A3 n3 c3, .slice A4 n4 c4] _ rfl Z4.out.range Tryz.underlying75 rfl info_node) rfl ?_
  exact ⟨rfl, HB.out⟩
end
end Go.Proofs.YtcjokkjepgfinaaGreatDoor.Tr
