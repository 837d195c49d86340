import Derived.Test.YtcoaaldffnbdbaaR3
namespace Go.Proofs.Ytcoaaldffnbdbaa
open Go.RowKit Mem

/-- The row of the call's own that holds l: its block, written at i. -/
theorem own_block {e : TypeId} {w : World} {base : Nat} {v : Value} {l : List UInt8} (h : Own e w base v l) (h0 : 0 < l.length) :
    ∃ g cap, v = .slice (some ⟨g, 0, none⟩) l.length cap ∧ base ≤ g ∧ ∃ cur : Array Value, w.heap[g]? = some (.cells cur e (0, 0)) ∧ l.length ≤ cap ∧ cap ≤ maxLen ∧ cur.size = cap ∧ cur.toList.take l.length = l.map bv := by
  rcases h.2 with ⟨_, hn⟩ | ⟨g, cap, cur, hv, hg, hh, hc, hm, hs, ht⟩
  · omega
  · exact ⟨g, cap, hv, hg, cur, hh, hc, hm, by simpa using hs, by simpa using ht⟩
theorem own_store {e : TypeId} {w : World} {base g cap : Nat} {l : List UInt8} (h : Own e w base (.slice (some ⟨g, 0, none⟩) l.length cap) l) (i : Nat) (_hi : i < l.length) (x : UInt8) :
    Own e (w.setCell ⟨g, i, none⟩ (bv x)) base (.slice (some ⟨g, 0, none⟩) l.length cap) (l.set i x) := by
  rcases h.2 with ⟨hv, _⟩ | ⟨g', cap', cur, hv, hg, hh, hc, hm, hs, ht⟩
  · cases hv
  · injection hv with h1 _ h3
    injection h1 with h1
    injection h1 with h1 _ _
    subst h1; subst h3
    refine ⟨by simp, .inr ⟨g, cap, cur.setIfInBounds i (bv x), by simp, hg, ?_, by simpa using hc, hm, by simpa using hs, ?_⟩⟩
    · simp [World.setCell, Array.getElem?_modify, hh]
    · simp only [List.length_set, Nat.mul_one, Array.toList_setIfInBounds] at ht ⊢
      rw [List.take_set, ht, List.map_set]
      
/-- New, and more: the reader stays as it is whatever becomes of what was there ahead of it. -/
theorem New_strong (A : Option Addr) (c n : Nat) (l : List UInt8) (w : World) (hr : Rd w w.heap.size A c l) (hl : l.length = n) (hn : n ≤ 140737488355328) :
    Calls Try.prog 17 #[.slice A n c] w fun e w' => ∃ g, e = .returned (.pointer (some ⟨g, 0, none⟩)) ∧ w.heap.size ≤ g ∧ g < w'.heap.size ∧ Below w.heap.size w w' ∧
      ∀ W : World, (∀ k, w.heap.size ≤ k → k < w'.heap.size → W.heap[k]? = w'.heap[k]?) → RdrS W g ⟨l, false⟩ := by
  subst hl
  have HR := Lib.hid hr
  clear hr
  go_enter Try.func17, Try.ntmps17
  go_wp2_with (go_at_call 30; refine (clone_any _ _ _ _ _ HR.out rfl hn).mono ?_; rintro e w1 ⟨v1, rfl, hown, hb⟩; obtain ⟨A1, c1, rfl, hr1, hlt1, hs1⟩ := hown.form; have H2 := Lib.hid hr1; have H3 := Lib.hid hb; have H4 := Lib.hid hs1; have H5 := Lib.hid hlt1; clear hown hr1 hb hlt1 hs1)
  go_ret
  refine ⟨w1.heap.size, rfl, H3.out.size, by rw [size_alloc']; omega, H3.out.alloc H3.out.size _, fun W hW => ⟨A1, c1, ?_, ?_, H4.out⟩⟩
  · rw [hW _ H3.out.size (by rw [size_alloc']; omega)]; exact heap_alloc_new w1 _
  · refine ⟨H2.out.1, H2.out.2.1, H2.out.2.2.1, fun hp => ?_⟩
    obtain ⟨b, o, rfl, hb, hc⟩ := H2.out.2.2.2 hp
    refine ⟨b, o, rfl, hb, fun i hi => ?_⟩
    have hbb := (H5.out b rfl).1
    rw [← hc i hi]
    refine World.cell?_of_block (w := w1) (a := ⟨b, o + i, none⟩) ?_
    show W.heap[b]? = w1.heap[b]?
    rw [hW b hbb (by rw [size_alloc']; omega)]
    exact Below.heap_alloc w1 _ b hb
theorem xor_bv (x : UInt8) : Value.int .u8 (bits BinOp.xor IntKind.u8 (x.toNat : Int) 255) = bv (x ^^^ 255) := by
  have hx := x.toNat_lt
  have e : bits BinOp.xor IntKind.u8 (x.toNat : Int) ((255 : Nat) : Int) = ((x.toNat ^^^ 255 : Nat) : Int) := u8_xor_nat _ _ (by omega) (by omega)
  unfold bv
  rw [UInt8.toNat_xor]
  exact congrArg (Value.int .u8) e
set_option maxRecDepth 100000 in
set_option maxHeartbeats 8000000 in
theorem wireTakes_walk (A : Option Addr) (n c : Nat) (l : List UInt8) (hl : l.length = n) (A1 : Option Addr) (n1 c1 : Nat) (f : Nat → Nat → Value) (w : World) (hr : Rd w w.heap.size A c l) {fs : Array Field} (hu : Try.prog.underlying 40 = some (.struct fs)) (hf : Structs Try.prog w w.heap.size fs A1 n1 c1 f) :
    Calls Try.prog 4 #[.slice A n c, .slice A1 n1 c1] w fun e w' => e = .returned (.bool true) ∧ Below w.heap.size w w' := by
  obtain ⟨ts, rfl, ht⟩ := takes_of hu hf
  clear hu hf
  subst hl
  have ht0 := ht.1
  have ht1 := ht.2.1
  unfold maxLen at ht1
  by_cases hbig : 5000 < l.length
  · have hbig' : (5000 : Int) < (l.length : Int) := by omega
    clear ht
    go_enter Try.func4, Try.ntmps4
    go_wp2
    go_ret
    exact ⟨rfl, Below.refl _ _⟩
  · by_cases hbig2 : 200 < ts.length
    · have hsmall : (l.length : Int) ≤ 5000 := by omega
      have hbig' : (200 : Int) < (ts.length : Int) := by omega
      clear ht hbig
      go_enter Try.func4, Try.ntmps4
      go_wp2
      go_ret
      exact ⟨rfl, Below.refl _ _⟩
    · have hsmall : (l.length : Int) ≤ 5000 := by omega
      have hsmall2 : (ts.length : Int) ≤ 200 := by omega
      have hsm : l.length ≤ 5000 := by omega
      have HR := Lib.hid hr
      have HT := Lib.hid ht
      have hown0 := Own.lit 5 w [] w.heap.size (Nat.le_refl _) (Nat.zero_le _)
      have HO0 := Lib.hid hown0
      clear hr ht hbig hbig2 hown0
      go_enter Try.func4, Try.ntmps4
      go_wp2_with (at_builtin; refine wpList_append_rd byteTy rfl _ _ rfl w.heap.size _ [] rfl HO0.out w.heap.size _ _ _ _ rfl rfl (HR.out.alloc (Nat.le_refl _) _) (by simp; omega) (by simp) ?_; intro v2 w2 hown2 hg2 hat2; rw [List.nil_append] at hown2; obtain ⟨A2, c2, rfl, hr2, hk2, _⟩ := hown2.form; have HO2 := Lib.hid hown2; have HR2 := Lib.hid hr2; have HB2 : Hid (Below w.heap.size w w2) := Lib.hid (own_trans ((Below.refl _ w).alloc (Nat.le_refl _) _) hg2 (fun k hk => by change some w.heap.size = some k at hk; injection hk; omega)); clear hown2 hr2 hg2 hat2 hk2)
      refine (New_strong _ _ _ l _ HR2.out rfl (by omega)).mono ?_
      rintro e w3 ⟨g, rfl, hg, hg3, hb, hs⟩
      have HG := Lib.hid hg; have HG3 := Lib.hid hg3; have HS := Lib.hid hs; have Hb := Lib.hid hb; have HB3 := Lib.hid (HB2.out.trans (hb.mono HB2.out.size)); have HO3 := Lib.hid (HO2.out.below hb (Nat.le_refl _))
      clear hg hg3 hs hb
      go_wp2_with fail
      have hsz4 := Lib.hid (size_alloc' w3 (Obj.cells #[Value.slice A l.length c, Value.int IntKind.i64 0, Value.bool false] 37))
      have hnew4 := Lib.hid (heap_alloc_new w3 (Obj.cells #[Value.slice A l.length c, Value.int IntKind.i64 0, Value.bool false] 37))
      have hb4 := (Below.refl w3.heap.size w3).alloc (Nat.le_refl _) (Obj.cells #[Value.slice A l.length c, Value.int IntKind.i64 0, Value.bool false] 37)
      have HO4 := Lib.hid (HO3.out.below hb4 (Nat.le_refl _))
      have HB4 := Lib.hid (HB3.out.trans (hb4.mono HB3.out.size))
      have H34 := Lib.hid hb4
      clear hb4
      generalize hw4 : w3.alloc (Obj.cells #[Value.slice A l.length c, Value.int IntKind.i64 0, Value.bool false] 37) = w4 at *
      clear hw4
      go_loopw [8] (fun i wr => ∃ (k : Nat) (l' : List UInt8), k ≤ l.length ∧ i = .int .i64 k ∧ l'.length = l.length ∧ Own 5 wr w.heap.size (.slice A2 l.length c2) l' ∧ Below w.heap.size w wr ∧ wr.heap.size = w4.heap.size ∧ ∀ j, w2.heap.size ≤ j → wr.heap[j]? = w4.heap[j]?) (fun i _ => l.length - (intOf i).toNat)
      case atStart => exact ⟨0, l, by omega, rfl, rfl, HO4.out, HB4.out, rfl, fun _ _ => rfl⟩
      case round =>
        obtain ⟨k, l', hk, rfl, hll, ho, hb, hz, hfr⟩ := hrel
        have HO := Lib.hid ho; have HB := Lib.hid hb; have HZ := Lib.hid hz; have HF := Lib.hid hfr; have HLL := Lib.hid hll
        by_cases hlt : k < l.length
        · have hlt' : k < l'.length := by omega
          obtain ⟨gi, cap, hv, hgi, cur, hcur, hlc, hcm, hcs, hct⟩ := own_block ho (by omega)
          injection hv with hv1 hv2 hv3
          subst hv1; subst hv3
          have hcell := blk_cell hcur k
          have hfree := blk_free hcur k
          have hx : cur[k]? = some (bv l'[k]) := by
            have : (cur.toList.take l'.length)[k]? = (l'.map bv)[k]? := by rw [hct]
            rw [List.getElem?_take_of_lt hlt', List.getElem?_map, List.getElem?_eq_getElem hlt'] at this
            simpa using this
          rw [hx] at hcell
          have HV := Lib.hid (xor_bv l'[k])
          unfold bv at hcell
          have HGI := Lib.hid hgi
          have HGL := Lib.hid (HO2.out.lt gi rfl).2
          have hgilt := lt_of_block hcur
          clear ho hb hz hfr hll hx hcur hct hcs hv2
          go_wp2_with fail
          go_roundw
          case rel => 
            rw [HV.out]
            refine ⟨k + 1, l'.set k (l'[k] ^^^ 255), by omega, by go_num, by simp; exact HLL.out, ?_, HB.out.setCell HGI.out _, by simp [World.setCell]; exact HZ.out, fun j hj => ?_⟩
            · have := HO.out; rw [← HLL.out] at this ⊢; exact own_store this k hlt' _
            · rw [Below.heap_setCell _ _ _ _ (by have := HGL.out; simp; omega)]; exact HF.out j hj
          case measure => simp [intOf]; omega
        · have hdr : RdrS wr g ⟨l, false⟩ := HS.out wr fun q h1 h2 => (hfr q h1).trans (H34.out.block q h2)
          have hz4 := hsz4.out
          have href : RefS wr w3.heap.size w.heap.size ⟨l, false⟩ :=
            ⟨HB3.out.size, A, c, l, 0, (hfr _ Hb.out.size).trans hnew4.out, by simp, rfl, HR.out.below hb, by omega⟩
          have HBoth : Hid (Both wr g w3.heap.size w.heap.size ⟨l, false⟩) := Lib.hid ⟨hdr, href⟩
          clear ho hb hz hfr hll hdr href hz4
          have hnot : ∀ (x : Bool) (w : World), (Op.unary .not (.bool x)).run Try.prog w = .ok (.bool (!x)) w := fun _ _ => rfl
          go_wp2_with fail
          go_loopw [9] (fun i wq => ∃ (k : Nat) (s : St), k ≤ ts.length ∧ i = .int .i64 k ∧ Both wq g w3.heap.size w.heap.size s ∧ Below w.heap.size w wq) (fun i _ => ts.length - (intOf i).toNat)
          case atStart => exact ⟨0, _, by omega, rfl, HBoth.out, HB.out⟩
          case round =>
            obtain ⟨k, s, hk, rfl, hbo, hbq⟩ := hrel
            have HBo := Lib.hid hbo
            have HBq := Lib.hid hbq
            clear hbo hbq
            by_cases hlt : k < ts.length
            · obtain ⟨b, o, rfl, hbo, hc⟩ := HT.out.2.2 (by omega)
              obtain ⟨d1, d2, x0, x1, y0, y1⟩ := hc k hlt
              have hc1 := (HBq.out.cell (p := ⟨b, o + k * 2, none⟩) hbo).trans d1
              have hc2 := (HBq.out.cell (p := ⟨b, o + k * 2 + 1, none⟩) hbo).trans d2
              clear hc d1 d2
              generalize ts[k] = t at *
              obtain ⟨x, y⟩ := t
              go_wp2_with fail
              refine (same_any g w3.heap.size w.heap.size s x y _ HBo.out (Nat.le_trans HB2.out.size HG.out) HG3.out x0 x1 y0 y1).mono ?_
              rintro e w5 ⟨rfl, hn⟩
              have HN := Lib.hid hn
              clear hn hc1 hc2
              go_wp2_with fail
              go_roundw
              case rel =>
                obtain ⟨s', h1, h2⟩ := HN.out
                exact ⟨k + 1, s', by omega, by go_num, h1, HBq.out.trans h2⟩
              case measure => simp [intOf]; omega
            · go_wp2_with fail
              refine (RDone_any g s _ HBo.out.1).mono ?_
              rintro e w5 ⟨rfl, rfl⟩
              go_wp2_with fail
              refine (refDone_any w3.heap.size w.heap.size s _ HBo.out.2).mono ?_
              rintro e w5 ⟨rfl, nn, rfl⟩
              go_wp2_with (go_at_call 16; refine (goes_any _).mono ?_; rintro e wC ⟨rfl, hbC⟩; have HbC := Lib.hid hbC; clear hbC)
              go_ret
              have hd := below_drewN' HBq.out nn
              exact ⟨by first | rfl | simp, hd.trans (HbC.out.mono hd.size)⟩
end Go.Proofs.Ytcoaaldffnbdbaa
