import Derived.Test.YtcjokkjepgfinaaGreatDoorQHR
set_option linter.unusedVariables false
set_option linter.unusedSimpArgs false
namespace Go.Proofs.YtcjokkjepgfinaaGreatDoor.Tr
set_option maxRecDepth 8000
open Go.RowKit Mem Sk
open Dk (Fr)
section
variable {w w' : World} {F G : Nat → Prop} {N : Nat} {v kv : Value}
theorem mid_lt (l : List It) (h : l ≠ []) : mid l < l.length := by
  have h0 := List.length_pos_iff.2 h
  refine (mid_spec (isum l + 1) l (fun x hx => ?_) h0 (by omega)).1
  obtain ⟨a, b, rfl⟩ := List.append_of_mem hx
  rw [isum_app, isum_cons]; omega
theorem keepP {w W W' : World} {p1 p2 p3 : Addr} {x1 x2 x3 : Value} (hb : Below W.heap.size W W') (h : Below w.heap.size w W ∧ W.cell? p1 = some x1 ∧ W.cell? p2 = some x2 ∧ W.cell? p3 = some x3) :
    Below w.heap.size w W' ∧ W'.cell? p1 = some x1 ∧ W'.cell? p2 = some x2 ∧ W'.cell? p3 = some x3 :=
  ⟨h.1.trans (hb.mono h.1.size), (hb.cell (World.block_lt_of_cell? _ _ h.2.1)).trans h.2.1, (hb.cell (World.block_lt_of_cell? _ _ h.2.2.1)).trans h.2.2.1, (hb.cell (World.block_lt_of_cell? _ _ h.2.2.2)).trans h.2.2.2⟩
set_option maxHeartbeats 4000000 in
theorem places_any {k : Nat} {l : Its k} {key : By} (h : ItsAt true w F N k v l) (hk : RdF w F kv key) (h1 : nsz l ≤ 100000000) (hk6 : k < 256) (hF : ∀ b, F b → b < w.heap.size) (hN : N ≤ w.heap.size) (p : Int) (A1 A2 : Option Addr) (n1 n2 c1 c2 : Nat) :
    Calls Tryz.prog 93 #[.agg #[.int .i64 p, .int .i64 (k : Int), .slice A1 n1 c1, .slice A2 n2 c2, v], kv] w fun e w' => ∃ v' ts, e = .returned v' ∧ w'.ownsRow w.heap.size 80 3 v' ts.length (t3s ts) ∧ Al (EntR true w' F N (k + 1)) ts (parts l key) ∧ Below w.heap.size w w' := by
  obtain ⟨A, c, rfl, hc1, hc2⟩ := h.form
  obtain ⟨B, d, rfl⟩ := hk.form
  have hsum : 1 + isum (its l) = nsz l := rfl
  have HC := Lib.hid (fun W (hb : Below w.heap.size w W) => nsize_any p (k : Int) A1 A2 n1 n2 c1 c2 (h.kr.kf (kfb hb)) (by omega))
  have H := Lib.hid h; have HK := Lib.hid hk; have HF := Lib.hid hF
  clear h hk hF
  by_cases hroom : nsz l ≤ 4011
  · have hi1 : ((1 + isum (its l) : Nat) : Int) ≤ 4011 := by omega
    have hd1 : decide (((1 + isum (its l) : Nat) : Int) ≤ 4011) = true := decide_eq_true hi1
    go_enter Tryz.func93, Tryz.ntmps93
    go_wp2_with fail
    refine (HC.out _ (box1 w _)).mono ?_
    rintro e w1 ⟨rfl, hb1⟩
    have V1 := (VN.new w #[.int .i64 p, .int .i64 (k : Int), .slice A1 n1 c1, .slice A2 n2 c2, .slice A l.length c] 75).bel hb1
    have B1 := Lib.hid ((box1 w _).trans (hb1.mono (by simp)))
    have g1 := V1.c 1 _ rfl
    have g4 := V1.c 4 _ rfl
    clear hb1 V1
    go_wp2_with fail
    refine (place_any (H.out.kf (kfb B1.out)) (HK.out.bel B1.out) hk6 (fun b hb => Nat.lt_of_lt_of_le (HF.out b hb) B1.out.size) (Nat.le_trans hN B1.out.size)).mono ?_
    rintro e w2 ⟨rv, mv, rfl, hE, hb2⟩
    have HE := Lib.hid hE
    have B2 := Lib.hid (B1.out.trans (hb2.mono B1.out.size))
    clear hb2 hE g1 g4
    go_wp2_with fail
    go_ret
    have b3 := box1 w2 (.cells #[.slice B key.length d, rv, mv] 80)
    have hpa : parts l key = [(key, mkT none l)] := by unfold parts; rw [if_pos hroom]
    rw [hpa]
    exact ⟨_, [(.slice B key.length d, rv, mv)], rfl, ownsRow_low (Own3.one w2 (.slice B key.length d, rv, mv)) B2.out.size, (Al.one HE.out).kf (kfb b3), B2.out.trans (b3.mono B2.out.size)⟩
  · have hi1 : ¬ ((1 + isum (its l) : Nat) : Int) ≤ 4011 := by omega
    have hd1 : decide (((1 + isum (its l) : Nat) : Int) ≤ 4011) = false := decide_eq_false hi1
    have hne : its l ≠ [] := by
      intro e
      have : isum (its l) = 0 := by rw [e]; rfl
      omega
    have HM := Lib.hid (fun W (hb : Below w.heap.size w W) => middle_any (H.out.kr.kf (kfb hb)) (by omega) hne)
    have hlen : (its l).length = l.length := by simp [its]
    have hmid : mid (its l) < l.length := by rw [← hlen]; exact mid_lt _ hne
    generalize hm : mid (its l) = m at *
    have hkl : (its l)[m]'(by rw [hlen]; exact hmid) = it l[m] := by simp [its]
    have hka : keyAt l m = l[m].1 := keyAt_of (List.getElem?_eq_getElem hmid)
    obtain ⟨b, o, Ak, ck, At, ct, q, rfl, q1, _, _, r1, _, r2, _⟩ := H.out.kr.at (show m < (its l).length by rw [hlen]; exact hmid)
    have hk1 : ((its l)[m]'(by rw [hlen]; exact hmid)).1 = l[m].1 := by rw [hkl]; rfl
    rw [hk1] at q1 r2
    clear r1 hkl hk1
    have hpa : parts l key = [(key, mkT none (l.take m)), (l[m].1, mkT none (l.drop m))] := by unfold parts; rw [if_neg hroom, hm, hka]
    have HP1 := Lib.hid (fun W (hb : Below w.heap.size w W) => place_any (key := key) (kv := .slice B key.length d) ((H.out.take (show m ≤ l.length by omega)).kf (kfb hb)) (HK.out.bel hb) hk6 (fun b hb' => Nat.lt_of_lt_of_le (HF.out b hb') hb.size) (Nat.le_trans hN hb.size))
    have HP2 := Lib.hid (fun W (hb : Below w.heap.size w W) => place_any (key := l[m].1) ((H.out.from (show m ≤ l.length by omega)).kf (kfb hb)) (r2.bel hb) hk6 (fun b hb' => Nat.lt_of_lt_of_le (HF.out b hb') hb.size) (Nat.le_trans hN hb.size))
    have ht1 := fun W => run_toI (some ⟨b, o, none⟩) m l.length c W (by omega)
    have ht2 := fun W => run_fromI (some ⟨b, o, none⟩) m l.length c W (by omega)
    have hmi : (m : Int) < (l.length : Int) := by omega
    have HPA := Lib.hid hpa
    generalize l[m].1 = kk at *
    clear hpa hka r2
    go_enter Tryz.func93, Tryz.ntmps93
    go_wp2_with fail
    refine (HC.out _ (box1 w _)).mono ?_
    rintro e w1 ⟨rfl, hb1⟩
    have V1 := (VN.new w #[.int .i64 p, .int .i64 (k : Int), .slice A1 n1 c1, .slice A2 n2 c2, .slice (some ⟨b, o, none⟩) l.length c] 75).bel hb1
    have B1 := Lib.hid ((box1 w _).trans (hb1.mono (by simp)))
    have g1 := V1.c 1 _ rfl
    have g4 := V1.c 4 _ rfl
    clear hb1
    go_wp2_with fail
    refine (HM.out _ B1.out).mono ?_
    rintro e w2 ⟨rfl, hb2⟩
    have V2 := V1.bel hb2
    have B2 := Lib.hid (B1.out.trans (hb2.mono B1.out.size))
    have g1' := V2.c 1 _ rfl
    have g4' := V2.c 4 _ rfl
    clear hb2 V1 g1 g4
    go_wp2_with fail
    have q1' := (bcellT B2.out b (o + m * 3) (World.block_lt_of_cell? _ _ q1)).trans q1
    clear q1
    go_region_held3 (fun w' => Below w.heap.size w w' ∧ w'.cell? ⟨w.heap.size, 1, none⟩ = some (.int .i64 (k : Int)) ∧ w'.cell? ⟨w.heap.size, 4, none⟩ = some (.slice (some ⟨b, o, none⟩) l.length c) ∧ w'.cell? ⟨b, o + m * 3, none⟩ = some (.slice Ak kk.length ck))
      (first | exact ⟨B2.out.drew, g1', g4', q1'⟩ | exact keepP hb ‹_› | exact keepP (box1 _ _) ‹_› | go_keep)
      ((go_at_call 122; first
        | (with_reducible refine (HP1.out _ (And.left ‹_›)).mono ?_; rintro e w3 ⟨rv1, mv1, rfl, hE1, hb⟩; have hb1 := hb)
        | (with_reducible refine (HP2.out _ (And.left ‹_›)).mono ?_; rintro e w4 ⟨rv2, mv2, rfl, hE2, hb⟩; have hb2 := hb)))
    have hAl := (Al.one (hE1.kf (kfb hb2))).app (Al.one hE2)
    have B3 := B2.out.drew.trans (hb1.mono B2.out.drew.size)
    have B4 := B3.trans (hb2.mono B3.size)
    have hO := ownsRow_low (Own3.two w4 (.slice B key.length d, rv1, mv1) (.slice Ak kk.length ck, rv2, mv2)) B4.size
    go_wp2_with fail
    go_ret
    rw [HPA.out]
    exact ⟨_, rfl, _, hO, hAl.kf (kfb (box1 w4 _)), B4.trans ((box1 w4 _).mono B4.size)⟩
end
def Can : (k : Nat) → Its k → Prop
  | 0, _ => True
  | k + 1, m => ∀ x : By × T k, m = [x] → pg x.2 = none ∧ Can k (sub x.2)
theorem crown_strip {k : Nat} (l : Its k) : crown k l = strip (k + 1) (parts l []) := by
  unfold crown parts
  split
  · rw [strip_one]; rfl
  · rename_i h
    rw [strip_more (fun _ => by simp)]
theorem can_parts {k : Nat} {l : Its k} (h : Can k l) : Can (k + 1) (parts l []) := by
  intro x hx
  unfold parts at hx
  split at hx
  · injection hx with e _; subst e; exact ⟨rfl, h⟩
  · simp at hx
section
variable {w w' : World} {F G : Nat → Prop} {N : Nat} {v kv : Value}
theorem NodeW.made {w : World} {F : Nat → Prop} {N b k : Nat} {iv : Value} (hv : VN w b [.int .i64 0, .int .i64 (k : Int), .slice none 0 0, .slice none 0 0, iv]) (hb : ¬ F b) (hN : N ≤ b) : NodeW w F N b k iv :=
  ⟨hv.lt, hb, hN, hv.c 0 _ rfl, hv.c 1 _ rfl, hv.c 2 _ rfl, hv.c 3 _ rfl, hv.c 4 _ rfl, hv.top 5 (Nat.le_refl _)⟩
def lvl (r : Value) (w : World) : Nat := match r with
  | .pointer (some a) => match w.cell? ⟨a.block, 1, none⟩ with
    | some (.int _ n) => n.toNat
    | _ => 0
  | _ => 0
theorem lvl_node {w : World} {b k : Nat} {iv : Value} (h : NodeW w F N b k iv) : lvl (.pointer (some ⟨b, 0, none⟩)) w = k := by
  unfold lvl; simp [h.c1]
theorem keep5 {w W W' : World} {p0 p1 p2 p3 p4 : Addr} {x0 x1 x2 x3 x4 : Value} (hb : Below W.heap.size W W') (h : Below w.heap.size w W ∧ W.cell? p0 = some x0 ∧ W.cell? p1 = some x1 ∧ W.cell? p2 = some x2 ∧ W.cell? p3 = some x3 ∧ W.cell? p4 = some x4) :
    Below w.heap.size w W' ∧ W'.cell? p0 = some x0 ∧ W'.cell? p1 = some x1 ∧ W'.cell? p2 = some x2 ∧ W'.cell? p3 = some x3 ∧ W'.cell? p4 = some x4 := by
  obtain ⟨h1, a0, a1, a2, a3, a4⟩ := h
  have key : ∀ {p : Addr} {x : Value}, W.cell? p = some x → W'.cell? p = some x := fun h => (hb.cell (World.block_lt_of_cell? _ _ h)).trans h
  exact ⟨h1.trans (hb.mono h1.size), key a0, key a1, key a2, key a3, key a4⟩
set_option maxHeartbeats 4000000 in
theorem crown_any {k : Nat} {l : Its k} (h : ItsAt true w F N k v l) (h0 : l ≠ []) (hc : Can k l) (h1 : nsz l ≤ 100000000) (hk6 : k + 1 < 256) (hF : ∀ b, F b → b < w.heap.size) (hN : N ≤ w.heap.size) (p : Int) (A1 A2 : Option Addr) (n1 n2 c1 c2 : Nat) :
    Calls Tryz.prog 67 #[.agg #[.int .i64 p, .int .i64 (k : Int), .slice A1 n1 c1, .slice A2 n2 c2, v]] w fun e w' => ∃ b iv, e = .returned (.pointer (some ⟨b, 0, none⟩)) ∧ NodeW w' F N b (crown k l).1 iv ∧ ItsAt true w' F N (crown k l).1 iv (crown k l).2 ∧ Below w.heap.size w w' := by
  obtain ⟨A, c, rfl, hc1, hc2⟩ := h.form
  have hln : l.length ≠ 0 := fun e => h0 (List.eq_nil_of_length_eq_zero e)
  have hli : ((l.length : Int) == 0) = false := by simp; exact h0
  have HP := Lib.hid (fun W (hb : Below w.heap.size w W) => places_any (key := []) (kv := .slice none 0 0) (h.kf (kfb hb)) (RdF.nil W F) h1 (by omega) (fun b hb' => Nat.lt_of_lt_of_le (hF b hb') hb.size) (Nat.le_trans hN hb.size) p A1 A2 n1 n2 c1 c2)
  have H := Lib.hid h; have HF := Lib.hid hF
  have HC := Lib.hid (can_parts hc)
  rw [crown_strip]
  clear h hF hc h0
  go_enter Tryz.func67, Tryz.ntmps67
  go_wp2_with fail
  have V0 := VN.new w #[.int .i64 p, .int .i64 (k : Int), .slice A1 n1 c1, .slice A2 n2 c2, .slice A l.length c] 75
  have g0 := V0.c 0 _ rfl
  have g1 := V0.c 1 _ rfl
  have g2 := V0.c 2 _ rfl
  have g3 := V0.c 3 _ rfl
  have g4 := V0.c 4 _ rfl
  have hkw : wrap64 ((k : Int) + 1) = ((k + 1 : Nat) : Int) := by unfold wrap64; omega
  have B0 := box1 w (.cells #[.int .i64 p, .int .i64 (k : Int), .slice A1 n1 c1, .slice A2 n2 c2, .slice A l.length c] 75)
  generalize w.alloc (.cells #[.int .i64 p, .int .i64 (k : Int), .slice A1 n1 c1, .slice A2 n2 c2, .slice A l.length c] 75) = W0 at *
  go_region_held3 (fun w' => Below w.heap.size w w' ∧ w'.cell? ⟨w.heap.size, 0, none⟩ = some (.int .i64 p) ∧ w'.cell? ⟨w.heap.size, 1, none⟩ = some (.int .i64 (k : Int)) ∧ w'.cell? ⟨w.heap.size, 2, none⟩ = some (.slice A1 n1 c1) ∧ w'.cell? ⟨w.heap.size, 3, none⟩ = some (.slice A2 n2 c2) ∧ w'.cell? ⟨w.heap.size, 4, none⟩ = some (.slice A l.length c))
    (first | exact ⟨B0.drew, g0, g1, g2, g3, g4⟩ | exact keep5 hb ‹_› | exact keep5 (box1 _ _) ‹_› | go_keep)
    ((go_at_call 93; with_reducible refine (HP.out _ (And.left ‹_›)).mono ?_; rintro e w2 ⟨v', ts, rfl, hO, hAl, hb⟩; obtain ⟨Ai, ci, rfl⟩ := own_len' hO))
  have hkw' : IntKind.i64.wrap ((k : Int) + 1) = ((k + 1 : Nat) : Int) := by rw [IntWalk.i64_in _ (by omega)]; omega
  rw [hkw']
  have B2 := B0.drew.trans (hb.mono B0.drew.size)
  have hF2 : ∀ b, F b → b < W0.drew.heap.size := fun b hb => Nat.lt_of_lt_of_le (HF.out b hb) B0.drew.size
  have hI := ItsAt.own hO hAl hF2 (Nat.le_trans hN B0.drew.size)
  have b3 := box1 w2 (.cells #[.int .i64 0, .int .i64 ((k + 1 : Nat) : Int), .slice none 0 0, .slice none 0 0, .slice (Ai) ts.length ci] 75)
  have hNd := NodeW.made (F := F) (N := N) (VN.new w2 #[.int .i64 0, .int .i64 ((k + 1 : Nat) : Int), .slice none 0 0, .slice none 0 0, .slice (Ai) ts.length ci] 75) (fun hb => by have := HF.out _ hb; have := B2.size; omega) (Nat.le_trans hN B2.size)
  have P1 := Lib.hid hNd
  have P2 := Lib.hid (hI.kf (kfb b3))
  have P3 := Lib.hid (B2.trans (b3.mono B2.size))
  clear hNd hI b3 hO hAl hF2 hb B2 B0 g0 g1 g2 g3 g4 V0
  generalize w2.alloc (.cells #[.int .i64 0, .int .i64 ((k + 1 : Nat) : Int), .slice none 0 0, .slice none 0 0, .slice (Ai) ts.length ci] 75) = wz at *
  generalize hw2 : w2.heap.size = bz at *
  clear hw2
  go_wp2_with fail
  go_loopw [3] (fun r wr => ∃ (b j : Nat) (iv : Value) (m : Its j), r = .pointer (some ⟨b, 0, none⟩) ∧ Hid (NodeW wr F N b j iv) ∧ Hid (ItsAt true wr F N j iv m) ∧ Hid (Can j m) ∧ Hid (j < 256) ∧ Hid (strip (k + 1) (parts l []) = strip j m) ∧ Hid (Below w.heap.size w wr)) (fun r wr => lvl r wr)
  case atStart => exact ⟨bz, k + 1, _, parts l [], rfl, P1, P2, HC, Lib.hid hk6, Lib.hid rfl, P3⟩
  case round =>
    obtain ⟨b, j, iv, m, rfl, Q1, Q2, Q3, Q4, Q5, Q6⟩ := hrel
    obtain ⟨Am, cm, rfl, hm1, hm2⟩ := Q2.out.form
    have c1 := Q1.out.c1
    have c4 := Q1.out.c4
    cases j with
    | zero =>
      go_wp2_with fail
      go_ret
      rw [Q5.out]
      exact ⟨b, _, rfl, Q1.out, Q2.out, Q6.out⟩
    | succ j =>
      have hj0 : (0 : Int) < ((j + 1 : Nat) : Int) := by omega
      by_cases hm : m.length = 1
      · obtain ⟨x, rfl⟩ := List.length_eq_one_iff.1 hm
        obtain ⟨x1, x2⟩ := Q3.out x rfl
        obtain ⟨A', c', e, _, _, _, g⟩ := Q2.out
        injection e with e1 e2 e3
        subst e1 e3
        obtain ⟨b', o, rfl, hb', hf', hN', hz', hcs⟩ := g (by simp)
        obtain ⟨kv, rv, mv, q1, q2, q3, y, hy, r1, r2⟩ := hcs 0 (by simp)
        have hy : x = y := by simpa using hy
        subst hy
        rcases r2 with ⟨r2, _⟩ | ⟨_, _, _, b2, iv2, rfl, r3, r4⟩
        · exact absurd x1 r2
        · have q3' : wr.cell? ⟨b', o + 2, none⟩ = some (.pointer (some ⟨b2, 0, none⟩)) := by simpa using q3
          have hs : strip (j + 1) [x] = strip j (sub x.2) := strip_one
          have S1 := Lib.hid r3
          have S2 := Lib.hid r4
          have S3 := Lib.hid x2
          have S5 := Lib.hid (Q5.out.trans hs)
          have M1 := Lib.hid (lvl_node Q1.out)
          have hl1 : ([x] : Its (j + 1)).length = 1 := rfl
          rw [hl1] at c4 hm1
          clear q1 q2 q3 r1 r3 r4 x2 hs g hcs
          go_wp2_with fail
          go_roundw
          case rel => exact ⟨b2, j, iv2, sub x.2, rfl, S1, S2, S3, Lib.hid (by have := Q4.out; omega), S5, Q6⟩
          case measure =>
            rw [M1.out, lvl_node S1.out]; omega
      · have hs : strip (j + 1) m = ⟨j + 1, m⟩ := strip_more (fun _ => hm)
        have S5 := Lib.hid (Q5.out.trans hs)
        have hm0 : ((m.length : Int) == 1) = false := by simp; omega
        clear hs
        go_wp2_with fail
        go_ret
        rw [S5.out]
        exact ⟨b, _, rfl, Q1.out, Q2.out, Q6.out⟩
theorem crown_nil (w : World) (p k : Int) (A1 A2 A : Option Addr) (n1 n2 c1 c2 c : Nat) :
    Calls Tryz.prog 67 #[.agg #[.int .i64 p, .int .i64 k, .slice A1 n1 c1, .slice A2 n2 c2, .slice A 0 c]] w fun e w' => e = .returned (.pointer none) ∧ Below w.heap.size w w' := by
  go_enter Tryz.func67, Tryz.ntmps67
  go_wp2
  go_ret
  exact ⟨rfl, box1 _ _⟩
end
end Go.Proofs.YtcjokkjepgfinaaGreatDoor.Tr
