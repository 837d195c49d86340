import Derived.Test.YtcjokkjepgfinaaGreatDoorQHT
import Derived.Test.YtcjokkjepgfinaaGreatDoorQHX
set_option linter.unusedVariables false
set_option linter.unusedSimpArgs false
namespace Go.Proofs.YtcjokkjepgfinaaGreatDoor.Tr
set_option maxRecDepth 8000
open Go.RowKit Mem Sk
open Dk (Fr)
theorem step_append_own {P : Program} {t e : TypeId} (T : ByteTy P t e) {ops : Array Oper} {o : Oper} {a : Act} {w : World} {K : Act → World → Prop} {Q : Exit → Act → World → Prop} {E : Prop}
    (hg : o.guard = none) (s x : Operand) (hop : o.op = Op.call { callee := Callee.builtin Builtin.append, args := #[s, x], argTypes := #[t, t] })
    (base : Nat) (l m : List UInt8) {v : Value} {A : Option Addr} {n c : Nat} (h : Mem.Own e w base v l ∧ Rd w w.heap.size A c m) (hs : a.eval s = v) (hx : a.eval x = .slice A n c) (hn : n = m.length) (hlen : l.length + m.length ≤ 140737488355328) (hbase : base ≤ w.heap.size)
    (hK : ∀ v' w', Mem.Own e w' base v' (l ++ m) → w.grownBy w' v.ownBlock → (v'.ownBlock = v.ownBlock ∨ v'.ownBlock = some w.heap.size) → K (a.put o.dst v') w') :
    if Region.wanted o (yielded ops a.tmps) = true then Oper.wp P o a w K Q else E := by
  subst hn
  obtain ⟨v', w', hrun, h2, h3, h4⟩ := run_append_rd T w o.type base v l h.1 w.heap.size A c m h.2 hlen hbase
  exact Dk.step_append_run hg s x t hop v _ hs hx hrun (hK v' w' h2 h3 h4)
theorem own_make0 (W : World) (z base : Nat) (hz : z ≤ maxLen) (hb : base ≤ W.heap.size) : Mem.Own 5 (W.alloc (.cells (bcs (List.replicate z 0)) 5)) base (.slice (some ⟨W.heap.size, 0, none⟩) 0 z) [] :=
  ⟨by simp, .inr ⟨W.heap.size, z, _, rfl, hb, heap_alloc_new W _, Nat.zero_le _, hz, by simp [bcs], by simp⟩⟩
theorem ap1 {base : Nat} (w2 : World) (z : Nat) (c : UInt8) (cs : Array Value) (hc : cs = bcs [c]) (hz : z ≤ maxLen) (hb : base ≤ w2.heap.size) :
    Mem.Own 5 ((w2.alloc (.cells (bcs (List.replicate z 0)) 5)).alloc (.cells cs 5)) base (.slice (some ⟨w2.heap.size, 0, none⟩) 0 z) [] ∧ Rd ((w2.alloc (.cells (bcs (List.replicate z 0)) 5)).alloc (.cells cs 5)) ((w2.alloc (.cells (bcs (List.replicate z 0)) 5)).alloc (.cells cs 5)).heap.size (some ⟨w2.heap.size + 1, 0, none⟩) 1 [c] := by
  subst hc
  refine ⟨(own_make0 w2 z base hz hb).below (box1 _ _) (Nat.le_refl _), ?_⟩
  have := Rd.lit (w2.alloc (.cells (bcs (List.replicate z 0)) 5)) [c] 5 ((w2.alloc (.cells (bcs (List.replicate z 0)) 5)).alloc (.cells (bcs [c]) 5)).heap.size (by simp) (by simp [maxLen])
  have e : (w2.alloc (.cells (bcs (List.replicate z 0)) 5)).heap.size = w2.heap.size + 1 := World.size_alloc _ _
  rw [e] at this
  exact this
theorem ap2 {base : Nat} (w2 : World) (z : Nat) (c : UInt8) (cs : Array Value) (hc : cs = bcs [c]) (hz : z ≤ maxLen) (hb : base ≤ w2.heap.size) :
    Mem.Own 5 ((w2.alloc (.cells cs 5)).alloc (.cells (bcs (List.replicate z 0)) 5)) base (.slice (some ⟨w2.heap.size + 1, 0, none⟩) 0 z) [] ∧ Rd ((w2.alloc (.cells cs 5)).alloc (.cells (bcs (List.replicate z 0)) 5)) ((w2.alloc (.cells cs 5)).alloc (.cells (bcs (List.replicate z 0)) 5)).heap.size (some ⟨w2.heap.size, 0, none⟩) 1 [c] := by
  subst hc
  have h1 := own_make0 (w2.alloc (.cells (bcs [c]) 5)) z base hz (by rw [World.size_alloc]; omega)
  rw [World.size_alloc] at h1
  have h2 := (Rd.lit w2 [c] 5 (w2.alloc (.cells (bcs [c]) 5)).heap.size (by simp) (by simp [maxLen])).below (box1 (w2.alloc (.cells (bcs [c]) 5)) (.cells (bcs (List.replicate z 0)) 5))
  exact ⟨h1, h2.more (by simp)⟩
theorem ap3 {base : Nat} {w1 w2 : World} (z : Nat) (c : UInt8) (cs : Array Value) (hc : cs = bcs [c]) (hb : Below (w1.alloc (.cells cs 5)).drew.heap.size (w1.alloc (.cells cs 5)).drew w2) (hz : z ≤ maxLen) (hb2 : base ≤ w2.heap.size) :
    Mem.Own 5 (w2.alloc (.cells (bcs (List.replicate z 0)) 5)) base (.slice (some ⟨w2.heap.size, 0, none⟩) 0 z) [] ∧ Rd (w2.alloc (.cells (bcs (List.replicate z 0)) 5)) (w2.alloc (.cells (bcs (List.replicate z 0)) 5)).heap.size (some ⟨w1.heap.size, 0, none⟩) 1 [c] := by
  subst hc
  have h2 := (Rd.lit w1 [c] 5 (w1.alloc (.cells (bcs [c]) 5)).heap.size (by simp) (by simp [maxLen])).keep (w' := (w1.alloc (.cells (bcs [c]) 5)).drew) (fun _ _ => rfl) |>.below hb
  exact ⟨own_make0 w2 z base hz hb2, (h2.below ((box1 w2 (.cells (bcs (List.replicate z 0)) 5)).mono hb.size)).more (by rw [World.size_alloc w2]; exact Nat.le_succ_of_le hb.size)⟩
theorem keepG5 {w X W' : World} {r : Option Nat} {b : Nat} {x0 x1 x2 x3 x4 : Value} (hG : X.grownBy W' r) (hr : ∀ g, r = some g → w.heap.size < g) (hbw : b = w.heap.size) (h : Below w.heap.size w X ∧ X.cell? ⟨b, 0, none⟩ = some x0 ∧ X.cell? ⟨b, 1, none⟩ = some x1 ∧ X.cell? ⟨b, 2, none⟩ = some x2 ∧ X.cell? ⟨b, 3, none⟩ = some x3 ∧ X.cell? ⟨b, 4, none⟩ = some x4) :
    Below w.heap.size w W' ∧ W'.cell? ⟨b, 0, none⟩ = some x0 ∧ W'.cell? ⟨b, 1, none⟩ = some x1 ∧ W'.cell? ⟨b, 2, none⟩ = some x2 ∧ W'.cell? ⟨b, 3, none⟩ = some x3 ∧ W'.cell? ⟨b, 4, none⟩ = some x4 := by
  subst hbw
  obtain ⟨h1, a0, a1, a2, a3, a4⟩ := h
  have hbl := hG.block w.heap.size (World.block_lt_of_cell? _ _ a0) (fun e => by have := hr _ e.symm; omega)
  have key : ∀ {i : Nat} {x : Value}, X.cell? ⟨w.heap.size, i, none⟩ = some x → W'.cell? ⟨w.heap.size, i, none⟩ = some x := fun h => (World.cell?_of_block (w := X) hbl).trans h
  exact ⟨bel_grown h1 h1.size hG (fun g e => Nat.le_of_lt (hr g e)), key a0, key a1, key a2, key a3, key a4⟩
theorem keep2 {w W W' : World} {p0 p1 : Addr} {x0 x1 : Value} (hb : Below W.heap.size W W') (h : Below w.heap.size w W ∧ W.cell? p0 = some x0 ∧ W.cell? p1 = some x1) :
    Below w.heap.size w W' ∧ W'.cell? p0 = some x0 ∧ W'.cell? p1 = some x1 := by
  obtain ⟨h1, a0, a1⟩ := h
  exact ⟨h1.trans (hb.mono h1.size), (hb.cell (World.block_lt_of_cell? _ _ a0)).trans a0, (hb.cell (World.block_lt_of_cell? _ _ a1)).trans a1⟩
theorem keepG2 {w X W' : World} {r : Option Nat} {b : Nat} {x0 x1 : Value} (hG : X.grownBy W' r) (hr : ∀ g, r = some g → w.heap.size ≤ g ∧ g ≠ b) (h : Below w.heap.size w X ∧ X.cell? ⟨b, 0, none⟩ = some x0 ∧ X.cell? ⟨b, 1, none⟩ = some x1) :
    Below w.heap.size w W' ∧ W'.cell? ⟨b, 0, none⟩ = some x0 ∧ W'.cell? ⟨b, 1, none⟩ = some x1 := by
  obtain ⟨h1, a0, a1⟩ := h
  have hbl := hG.block b (World.block_lt_of_cell? _ _ a0) (fun e => (hr _ e.symm).2 rfl)
  exact ⟨bel_grown h1 h1.size hG (fun g e => (hr g e).1), (World.cell?_of_block (w := X) hbl).trans a0, (World.cell?_of_block (w := X) hbl).trans a1⟩
theorem own_gt {n z : Nat} (b : Nat) {B : Nat} (h : B < b) : ∀ g, (Value.slice (some ⟨b, 0, none⟩) n z).ownBlock = some g → B < g := fun g e => by
  injection e with e; subst e; exact h
theorem u8_cells (k : Nat) (hk : k < 256) : (#[Value.int .u8 (IntKind.u8.wrap (k : Int))] : Array Value) = bcs [UInt8.ofNat k] := by
  apply Array.toList_inj.1
  have e1 : ((UInt8.ofNat k).toNat : Int) = IntKind.u8.wrap (k : Int) := by rw [UInt8.toNat_ofNat', IntWalk.u8_in _ (by omega)]; omega
  simp only [bcs, List.map_cons, List.map_nil, bv, e1]
theorem itsB_snoc (a : List It) (x : It) : itsB (a ++ [x]) = itsB a ++ itB x := by simp [itsB]
section
variable {F : Nat → Prop} {N : Nat}
set_option maxHeartbeats 4000000 in
theorem told_any {k : Nat} {l : List It} {v : Value} {w : World} (h : KR w F N v l) (hF : ∀ b, F b → b < w.heap.size) (hk : k < 256) (hl : ∀ x ∈ l, x.1.length < 65536 ∧ x.2.length < 65536) (hs : isum l ≤ 100000000) (p : Int) (A1 A2 : Option Addr) (n1 n2 c1 c2 : Nat) :
    Calls Tryz.prog 128 #[.agg #[.int .i64 p, .int .i64 (k : Int), .slice A1 n1 c1, .slice A2 n2 c2, v]] w fun e w' => ∃ v', e = .returned v' ∧ Mem.Own 5 w' w.heap.size v' (UInt8.ofNat k :: itsB l) ∧ Below w.heap.size w w' := by
  obtain ⟨A, c, rfl, hc1, hc2⟩ := h.form
  have H := Lib.hid h
  have HL := Lib.hid hl
  have HC := Lib.hid (fun W (hb : Below w.heap.size w W) => nsize_any p (k : Int) A1 A2 n1 n2 c1 c2 (h.kf (kfb hb)) (by omega))
  obtain ⟨z, hz⟩ : ∃ z, z = 1 + isum l := ⟨_, rfl⟩
  have hz2 : z ≤ 100000001 := by omega
  have hmk : ∀ W, (Instr.makeSlice 32 (.int .i64 0) (.int .i64 (z : Int))).run Tryz.prog W = .ok (.slice (some ⟨W.heap.size, 0, none⟩) 0 z) (W.alloc (.cells (bcs (List.replicate z 0)) 5)) := by
    intro W
    obtain ⟨i0, hi, hz0, hz1, hz2⟩ := info_parts u8_info
    have hr := run_make (P := Tryz.prog) W 32 5 i0 _ Tryz.underlying32 hi hz0 .i64 .i64 0 z (by omega) (by omega) (by rw [hz2]; omega) (by omega)
    rw [hz1] at hr
    rw [hr, ← bcs_zeros]; simp [Value.cells]
  rw [← hz] at HC
  clear hz
  have hcapi : (l.length : Int) ≤ 9223372036854775807 := by unfold maxLen at hc2; omega
  clear h hl hc2
  go_enter Tryz.func128, Tryz.ntmps128
  go_wp2_with fail
  have hcs := Lib.hid (u8_cells k hk)
  have hzm : z ≤ maxLen := by unfold maxLen; omega
  have V0 := VN.new w #[.int .i64 p, .int .i64 (k : Int), .slice A1 n1 c1, .slice A2 n2 c2, .slice A l.length c] 75
  have g0 := V0.c 0 _ rfl
  have g1 := V0.c 1 _ rfl
  have g2 := V0.c 2 _ rfl
  have g3 := V0.c 3 _ rfl
  have g4 := V0.c 4 _ rfl
  have B0 := box1 w (.cells #[.int .i64 p, .int .i64 (k : Int), .slice A1 n1 c1, .slice A2 n2 c2, .slice A l.length c] 75)
  generalize w.alloc (.cells #[.int .i64 p, .int .i64 (k : Int), .slice A1 n1 c1, .slice A2 n2 c2, .slice A l.length c] 75) = W0 at *
  have H0 : w.heap.size < W0.drew.heap.size := World.block_lt_of_cell? _ _ g0
  go_cut [3] from 4 (fun v wz => Hid (Mem.Own 5 wz w.heap.size v [UInt8.ofNat k]) ∧ Hid (Below w.heap.size w wz ∧ wz.cell? ⟨w.heap.size, 0, none⟩ = some (.int .i64 p) ∧ wz.cell? ⟨w.heap.size, 1, none⟩ = some (.int .i64 (k : Int)) ∧ wz.cell? ⟨w.heap.size, 2, none⟩ = some (.slice A1 n1 c1) ∧ wz.cell? ⟨w.heap.size, 3, none⟩ = some (.slice A2 n2 c2) ∧ wz.cell? ⟨w.heap.size, 4, none⟩ = some (.slice A l.length c)))
  case first =>
    go_region_held3 (fun w' => Below w.heap.size w w' ∧ w'.cell? ⟨w.heap.size, 0, none⟩ = some (.int .i64 p) ∧ w'.cell? ⟨w.heap.size, 1, none⟩ = some (.int .i64 (k : Int)) ∧ w'.cell? ⟨w.heap.size, 2, none⟩ = some (.slice A1 n1 c1) ∧ w'.cell? ⟨w.heap.size, 3, none⟩ = some (.slice A2 n2 c2) ∧ w'.cell? ⟨w.heap.size, 4, none⟩ = some (.slice A l.length c))
      (first | exact ⟨B0.drew, g0, g1, g2, g3, g4⟩ | exact keepG5 hG hr rfl ‹_› | exact keep5 hb ‹_› | exact keep5 (box1 _ _) ‹_› | go_keep)
      (first | (go_at_call 92; with_reducible refine (HC.out _ (And.left ‹_›)).mono ?_; rintro e w2 ⟨rfl, hb⟩)
                | (refine step_append_own byteTy rfl (.tmp 8) (.tmp 12) rfl w.heap.size [] [UInt8.ofNat k] (ap1 w2 z _ _ hcs.out hzm (Nat.le_of_lt (Nat.lt_of_lt_of_le H0 hb.size))) ?_ ?_ rfl (by simp) (And.left ‹Below w.heap.size w _ ∧ _›).size ?_
                   · first | rfl | (simp [Act.eval, Act.put]; done)
                   · first | rfl | (simp [Act.eval, Act.put]; done)
                   intro v' w3 hO hG _
                   have hgt : w.heap.size < w2.heap.size := Nat.lt_of_lt_of_le H0 hb.size
                   have hr := fun g => own_gt (n := 0) (z := z) (w2.heap.size) hgt g)
                | (refine step_append_own byteTy rfl (.tmp 8) (.tmp 12) rfl w.heap.size [] [UInt8.ofNat k] (ap3 z _ _ hcs.out hb hzm (Nat.le_of_lt (Nat.lt_of_lt_of_le (show w.heap.size < W0.heap.size from H0) (Nat.le_trans (box1 W0 _).size hb.size)))) ?_ ?_ rfl (by simp) (And.left ‹Below w.heap.size w _ ∧ _›).size ?_
                   · first | rfl | (simp [Act.eval, Act.put]; done)
                   · first | rfl | (simp [Act.eval, Act.put]; done)
                   intro v' w3 hO hG _
                   have hgt : w.heap.size < w2.heap.size := Nat.lt_of_lt_of_le (show w.heap.size < W0.heap.size from H0) (Nat.le_trans (box1 W0 _).size hb.size)
                   have hr := fun g => own_gt (n := 0) (z := z) (w2.heap.size) hgt g)
                | (refine step_append_own byteTy rfl (.tmp 8) (.tmp 12) rfl w.heap.size [] [UInt8.ofNat k] (ap2 w2 z _ _ hcs.out hzm (Nat.le_of_lt (Nat.lt_of_lt_of_le H0 hb.size))) ?_ ?_ rfl (by simp) (And.left ‹Below w.heap.size w _ ∧ _›).size ?_
                   · first | rfl | (simp [Act.eval, Act.put]; done)
                   · first | rfl | (simp [Act.eval, Act.put]; done)
                   intro v' w3 hO hG _
                   have hgt : w.heap.size < w2.heap.size := Nat.lt_of_lt_of_le H0 hb.size
                   have hr := fun g => own_gt (n := 0) (z := z) (w2.heap.size + 1) (Nat.lt_succ_of_lt hgt) g))
    all_goals
      go_wp2_with fail
      go_meet
      case rel => exact ⟨Lib.hid hO, Lib.hid ‹_›⟩
  case rest =>
    obtain ⟨HO, HS⟩ := hcut
    have c4 := HS.out.2.2.2.2.2
    go_wp2_with fail
    have HS0 := Lib.hid HS.out.1
    clear HS c4 g0 g1 g2 g3 g4 V0 B0
    go_loopw [3, 17] (fun bv i wr => ∃ j : Nat, j ≤ l.length ∧ i = .int .i64 j ∧ Hid (Mem.Own 5 wr w.heap.size bv (UInt8.ofNat k :: itsB (l.take j))) ∧ Hid (Below w.heap.size w wr)) (fun _ i _ => l.length - (intOf i).toNat)
    case atStart => exact ⟨0, Nat.zero_le _, rfl, HO, Lib.hid HS0.out⟩
    case round =>
      obtain ⟨j, hj, rfl, HV, HB⟩ := hrel
      by_cases hlt : j < l.length
      · obtain ⟨b, o, Ak, ck, Ar, cr, q, rfl, q1, q2, q3, r1, r2, _, _⟩ := H.out.at hlt
        have hbw : b < w.heap.size := World.block_lt_of_cell? _ _ q1
        have q1' := (bcellT HB.out b (o + j * 3) hbw).trans q1
        have q2' := (bcellT HB.out b (o + j * 3 + 1) hbw).trans q2
        have q3' := (bcellT HB.out b (o + j * 3 + 2) hbw).trans q3
        have h3i : (j : Int) < (l.length : Int) := by omega
        obtain ⟨hk1, hk2⟩ := HL.out l[j] (List.getElem_mem hlt)
        have HIT := Lib.hid (show UInt8.ofNat k :: itsB (l.take (j + 1)) = (((UInt8.ofNat k :: itsB (l.take j)) ++ be2 l[j].1.length) ++ be2 l[j].2.length ++ l[j].1) ++ l[j].2 by
          rw [List.take_succ_eq_append_getElem hlt, itsB_snoc]; simp [itB])
        have hib : (itsB (l.take j)).length ≤ 100000000 := by
          have := isum_take_le l j
          have := length_itsB (l.take j)
          omega
        have R1 := Lib.hid r1
        have R2 := Lib.hid r2
        clear q1 q2 q3 r1 r2
        generalize l[j].1 = kb at *
        generalize l[j].2 = rb at *
        generalize itsB (l.take j) = ib at *
        have HHIB := Lib.hid hib
        have hv := Lib.hid (fun g e => World.ownsRow.lt HV.out g e)
        go_wp2_with fail
        have X := VN.new wr #[.slice Ak kb.length ck, .slice Ar rb.length cr, .pointer q] 80
        have x0 := X.c 0 _ rfl
        have x1 := X.c 1 _ rfl
        have BW := HB.out.trans ((box1 wr (.cells #[.slice Ak kb.length ck, .slice Ar rb.length cr, .pointer q] 80)).mono HB.out.size)
        have HVW := Lib.hid (show Mem.Own 5 (wr.alloc (.cells #[.slice Ak kb.length ck, .slice Ar rb.length cr, .pointer q] 80)).drew w.heap.size u3 (UInt8.ofNat k :: ib) from HV.out.below (box1 wr _).drew (Nat.le_refl _))
        generalize wr.alloc (.cells #[.slice Ak kb.length ck, .slice Ar rb.length cr, .pointer q] 80) = W1 at *
        have hW1 : wr.heap.size < W1.drew.heap.size := World.block_lt_of_cell? _ _ x0
        go_region_held3 (fun w' => Below w.heap.size w w' ∧ w'.cell? ⟨wr.heap.size, 0, none⟩ = some (.slice Ak kb.length ck) ∧ w'.cell? ⟨wr.heap.size, 1, none⟩ = some (.slice Ar rb.length cr))
          (first | exact ⟨BW.drew, x0, x1⟩ | exact keepG2 hG hr ‹_› | exact keep2 hb ‹_› | go_keep)
          (first | (go_at_call 126; with_reducible refine (digits_any kb.length hk1 _).mono ?_; rintro e w2 ⟨d1, rfl, hD1, hb⟩; obtain ⟨Ad, cd, rfl, hRd, _⟩ := hD1.form; have O1 := HVW.out.below hb (Nat.le_refl _); have hbd := hb)
                 | (go_at_call 126; with_reducible refine (digits_any rb.length hk2 _).mono ?_; rintro e w4 ⟨d2, rfl, hD2, hb⟩; obtain ⟨Ae, ce, rfl, hRe, _⟩ := hD2.form; have O3 := hO.below hb (Nat.le_refl _))
                 | (refine step_append_own byteTy rfl (.tmp 21) (.tmp 25) rfl w.heap.size (UInt8.ofNat k :: ib) (be2 kb.length) ⟨O1, hRd⟩ rfl rfl rfl (by have := HHIB.out; simp [be2]; omega) (And.left ‹Below w.heap.size w _ ∧ _›).size ?_
                    intro v1 w3 hO hG hat
                    have hr : ∀ g, u3.ownBlock = some g → w.heap.size ≤ g ∧ g ≠ wr.heap.size := fun g e => ⟨(hv.out g e).1, Nat.ne_of_lt (hv.out g e).2⟩)
                 | (refine step_append_own byteTy rfl (.tmp 26) (.tmp 30) rfl w.heap.size ((UInt8.ofNat k :: ib) ++ be2 kb.length) (be2 rb.length) ⟨O3, hRe⟩ rfl rfl rfl (by have := HHIB.out; simp [be2]; omega) (And.left ‹Below w.heap.size w _ ∧ _›).size ?_
                    intro v2 w5 hO2 hG hat2
                    have hr1 := hr
                    have hr : ∀ g, v1.ownBlock = some g → w.heap.size ≤ g ∧ g ≠ wr.heap.size := fun g e => by
                      rcases hat with h | h
                      · exact hr1 g (h ▸ e)
                      · rw [h] at e; injection e with e; subst e; exact ⟨Nat.le_trans HB.out.size (Nat.le_trans (Nat.le_of_lt hW1) hbd.size), Nat.ne_of_gt (Nat.lt_of_lt_of_le hW1 hbd.size)⟩))
        have hS5 : Below w.heap.size w w5 ∧ w5.cell? ⟨wr.heap.size, 0, none⟩ = some (.slice Ak kb.length ck) ∧ w5.cell? ⟨wr.heap.size, 1, none⟩ = some (.slice Ar rb.length cr) := by assumption
        have hx5 : wr.heap.size < w5.heap.size := World.block_lt_of_cell? _ _ hS5.2.1
        have hx4 : wr.heap.size < w4.heap.size := Nat.lt_of_lt_of_le (Nat.lt_of_lt_of_le hW1 hbd.size) (Nat.le_trans ‹World.grownBy _ w3 _›.size hb.size)
        have hv2 : ∀ g, v2.ownBlock = some g → w.heap.size ≤ g ∧ g ≠ wr.heap.size := fun g e => by
          rcases hat2 with h | h
          · exact hr g (h ▸ e)
          · rw [h] at e; injection e with e; subst e; exact ⟨Nat.le_trans HB.out.size (Nat.le_of_lt hx4), Nat.ne_of_gt hx4⟩
        have HV2 := Lib.hid hv2
        have HO5 := Lib.hid (show Mem.Own 5 w5.drew w.heap.size v2 _ from hO2)
        have RK := Lib.hid (show Rd w5.drew w5.drew.heap.size Ak ck kb from (R1.out.below hS5.1.drew).more hS5.1.size)
        have BW5 := Lib.hid hS5.1
        have y0 := hS5.2.1
        have y1 := hS5.2.2
        clear hr hr1 hG hat hat2 hO hO2 O1 O3 hD1 hD2 hRd hRe hbd hb hv2 hS5 HVW hv x0 x1 X BW hW1 hx4
        go_wp2_with fail
        go_region_held3 (fun w' => Below w.heap.size w w' ∧ w'.cell? ⟨wr.heap.size, 0, none⟩ = some (.slice Ak kb.length ck) ∧ w'.cell? ⟨wr.heap.size, 1, none⟩ = some (.slice Ar rb.length cr))
          (first | exact ⟨BW5.out.drew, y0, y1⟩ | exact keepG2 hG6 hr6 ‹_› | go_keep)
          (first | (refine step_append_own byteTy rfl (.tmp 32) (.tmp 34) rfl w.heap.size ((UInt8.ofNat k :: ib) ++ be2 kb.length ++ be2 rb.length) kb ⟨HO5.out, RK.out⟩ rfl rfl rfl (by have := HHIB.out; simp [be2]; omega) (And.left ‹Below w.heap.size w _ ∧ _›).size ?_
                    intro v3 w6 hO6 hG6 hat6
                    have hr6 := HV2.out)
                 | (refine step_append_own byteTy rfl (.tmp 35) (.tmp 37) rfl w.heap.size (((UInt8.ofNat k :: ib) ++ be2 kb.length ++ be2 rb.length) ++ kb) rb ⟨hO6, (R2.out.below (And.left ‹Below w.heap.size w w6 ∧ _›)).more (And.left ‹Below w.heap.size w w6 ∧ _›).size⟩ rfl rfl rfl (by have := HHIB.out; simp [be2]; omega) (And.left ‹Below w.heap.size w _ ∧ _›).size ?_
                    intro v4 w7 hO7 hG7 hat7
                    have hG6a := hG6
                    have hG6 := hG7
                    have hr6 : ∀ g, v3.ownBlock = some g → w.heap.size ≤ g ∧ g ≠ wr.heap.size := fun g e => by
                      rcases hat6 with h | h
                      · exact HV2.out g (h ▸ e)
                      · rw [h] at e; injection e with e; subst e; exact ⟨BW5.out.size, Nat.ne_of_gt hx5⟩))
        have hS7 : Below w.heap.size w w7 ∧ w7.cell? ⟨wr.heap.size, 0, none⟩ = some (.slice Ak kb.length ck) ∧ w7.cell? ⟨wr.heap.size, 1, none⟩ = some (.slice Ar rb.length cr) := by assumption
        have HO7 := Lib.hid hO7
        have BW7 := Lib.hid hS7.1
        go_wp2_with fail
        go_roundw
        case rel => exact ⟨j + 1, by omega, by go_num, by rw [HIT.out]; exact HO7, BW7⟩
        case measure => simp [intOf]; omega
      · obtain rfl : j = l.length := by omega
        rw [List.take_length] at HV
        have h3i : ¬ ((l.length : Nat) : Int) < ((l.length : Nat) : Int) := by omega
        go_wp2_with fail
        go_ret
        exact ⟨_, rfl, HV.out, HB.out⟩
end
end Go.Proofs.YtcjokkjepgfinaaGreatDoor.Tr
