import Derived.Test.YtnaoodaadeimbaaPn13
import Derived.BigQuiet
import Derived.SizedLaws
namespace Go.Proofs.Ytnaoodaadeimbaa.Mem
set_option linter.unusedVariables false
set_option linter.unusedSimpArgs false
open Go.ChangeShapes Go.WideShapes Go.ChangeAt Go.RowKit Go.Deep
section
variable {H : Type} {enc : TypeId × Value → H} {P : Program} {w : World} {base : Nat} {spare : Nat → Bool} {held : Bool}
/-- How long a []byte that came in may be, by the form's own reach. -/
theorem blen_of_trod {t e : TypeId} {A : Option Addr} {len cap : Nat} {d : DataW H} {p : List MemPlace} (ht : P.underlying t = some (.slice e)) (he : P.underlying e = some (.int .u8)) (hc : P.cellsOf e = 1) (hby : P.bytesOf e = 1)
    (h : DataW.Trod enc P w base spare held t (.slice A len cap) d p) {ts : List TypeId} {ds : List (DataW H)} {k : Nat} (hZ : (DataW.weightsEach P ts ds).all (· ≤ reachBytes) = true) (hts : ts[k]? = some t) (hds : ds[k]? = some d) : len ≤ 140737488351232 := by
  obtain ⟨fuel, hf⟩ := h
  rcases open_ints ht he hc hf with ⟨hcs, _⟩ | ⟨a, len', cap', zs, hcs, _, hl, hm, hz, hx, _, _⟩
  · simp [Value.cells] at hcs
    omega
  · simp [Value.cells] at hcs
    obtain ⟨rfl, rfl, rfl⟩ := hcs
    injection hx with hd _
    rw [hd] at hds
    have := sized_slice hZ hts hds ht
    rw [hby] at this
    have hzl : len ≤ zs.length := by rw [hz]; split <;> omega
    have e1 : (lits .u8 (zs.take len) : List (DataW H)).length = len := by simp [lits]; omega
    rw [e1] at this
    have hr : reachBytes = 140737488351232 := by decide
    rw [hr] at this
    omega
end
end Go.Proofs.Ytnaoodaadeimbaa.Mem
namespace Go.Proofs.Ytnaoodaadeimbaa
set_option linter.unusedVariables false
set_option linter.unusedSimpArgs false
set_option maxRecDepth 8000
open Go.RowKit Mem Mo Ti Pl
set_option maxRecDepth 100000 in
set_option maxHeartbeats 4000000 in
theorem planReads_walk (A : Option Addr) (len c : Nat) (l : List UInt8) (hl : l.length = len) (w : World) (hr : Rd w w.heap.size A c l) (hz : len ≤ 140737488351232) :
    Calls Try.prog 6 #[.slice A len c] w fun e w' => e = .returned (.bool true) ∧ Below w.heap.size w w' := by
  subst hl
  have G := Lib.hid (fun W => goes_any W)
  have B0 := Lib.hid (Below.refl w.heap.size w)
  have HR := Lib.hid hr
  have CG := Lib.hid (Get_any A c l w hr (by omega))
  obtain ⟨n, hn⟩ : ∃ n, l.length = n := ⟨_, rfl⟩
  have HN := Lib.hid hn
  rw [hn] at CG hz ⊢
  by_cases ho : OkG l
  · have hlen := ho.len
    have z1 : (500 < (n : Int)) = False := by simp; omega
    have hmay := ho.1
    have hi : 0 ≤ (rd l).i ∧ (rd l).i ≤ 4294967295 := by have := ho.2.1; show 0 ≤ (na l 0 : Int) ∧ (na l 0 : Int) ≤ 4294967295; omega
    have HO := Lib.hid ho
    have HI := Lib.hid hi
    have hse : (str l == str l) = true := by
      first | exact BEq.rfl | exact beq_self_eq_true _ | exact decide_eq_true rfl | (cases str l; rename_i d; show (d == d) = true; simp)
    clear hlen ho hr hz hn hmay hi
    go_enter Try.func6, Try.ntmps6
    go_wp2_with fail
    refine CG.out.mono ?_
    rintro e w1 ⟨hb, ⟨_, A1, c1, rfl, hrt⟩ | ⟨hno, _⟩⟩
    · simp only [plv]
      obtain ⟨W1, hW1⟩ : ∃ W1, w1.alloc (.cells #[.int .u32 (rd l).i, .int .i64 (rd l).dy, .int .i64 (rd l).mo, .int .i64 (rd l).ov, .int .i64 (rd l).ro, .int .i64 (rd l).ba, .slice A1 (rd l).n c1] 25) = W1 := ⟨_, rfl⟩
      have V1 : VN W1 w1.heap.size [.int .u32 (rd l).i, .int .i64 (rd l).dy, .int .i64 (rd l).mo, .int .i64 (rd l).ov, .int .i64 (rd l).ro, .int .i64 (rd l).ba, .slice A1 (rd l).n c1] := by rw [← hW1]; exact VN.new w1 #[.int .u32 (rd l).i, .int .i64 (rd l).dy, .int .i64 (rd l).mo, .int .i64 (rd l).ov, .int .i64 (rd l).ro, .int .i64 (rd l).ba, .slice A1 (rd l).n c1] 25
      have hb1 : Below w1.heap.size w1 W1 := by rw [← hW1]; exact (Below.refl _ _).alloc (Nat.le_refl _) _
      have B1 := Lib.hid (hb.trans (hb1.mono hb.size))
      have HV1 := Lib.hid V1
      have RT := Lib.hid ((hrt.below hb1).more hb1.size)
      have CP := Lib.hid (show Calls Try.prog 9 #[.agg #[.int .u32 (rd l).i, .int .i64 (rd l).dy, .int .i64 (rd l).mo, .int .i64 (rd l).ov, .int .i64 (rd l).ro, .int .i64 (rd l).ba, .slice A1 (rd l).n c1]] W1 fun e w' => ∃ A' n', e = .returned (.tuple #[.slice A' n n', .int .i64 0]) ∧ Rd w' w'.heap.size A' n' l ∧ Below W1.heap.size W1 w' from by
        have := Put_ok (rd l) A1 c1 W1 W1.heap.size RT.out (Nat.le_refl _) HI.out HO.out.1
        rw [HO.out.2.2, HN.out] at this
        exact this)
      have CK := Lib.hid (fun W (h : Below W1.heap.size W1 W) => (show Calls Try.prog 11 #[.agg #[.int .u32 (rd l).i, .int .i64 (rd l).dy, .int .i64 (rd l).mo, .int .i64 (rd l).ov, .int .i64 (rd l).ro, .int .i64 (rd l).ba, .slice A1 (rd l).n c1]] W fun e w' => e = .returned (.bool true) ∧ Below W.heap.size W w' from by
        have := Check_any (rd l) A1 c1 W W1.heap.size (RT.out.below h) h.size HI.out.1
        rw [(may_iff _).2 HO.out.1] at this
        exact this))
      have d0 := V1.c 0 _ rfl; have d1 := V1.c 1 _ rfl; have d2 := V1.c 2 _ rfl; have d3 := V1.c 3 _ rfl; have d4 := V1.c 4 _ rfl; have d5 := V1.c 5 _ rfl; have d6 := V1.c 6 _ rfl
      clear V1 hb hb1 hrt
      go_wp2_with fail
      refine CP.out.mono ?_
      rintro e w2 ⟨A2, n2, rfl, hr2, hb⟩
      have HB2 := Lib.hid hb
      have B2 := Lib.hid (B1.out.trans (hb.mono B1.out.size))
      have V2 := HV1.out.bel hb
      have HR2 := Lib.hid hr2
      clear d0 d1 d2 d3 d4 d5 d6 hb hr2
      have d0 := V2.c 0 _ rfl; have d1 := V2.c 1 _ rfl; have d2 := V2.c 2 _ rfl; have d3 := V2.c 3 _ rfl; have d4 := V2.c 4 _ rfl; have d5 := V2.c 5 _ rfl; have d6 := V2.c 6 _ rfl
      clear V2
      go_wp2_with fail
      refine (CK.out _ HB2.out).mono ?_
      rintro e w3 ⟨rfl, hb⟩
      have B3 := Lib.hid (B2.out.trans (hb.mono B2.out.size))
      have cs1 := run_str_rd w3 (HR2.out.below hb)
      have cs2 := run_str_rd w3 (HR.out.below B3.out)
      rw [HN.out] at cs1 cs2
      clear hb d0 d1 d2 d3 d4 d5 d6
      go_wp2_with fail
      refine (G.out _).mono ?_
      rintro e w4 ⟨rfl, hb⟩
      have B4 := Lib.hid (B3.out.trans (hb.mono B3.out.size)); clear hb
      go_wp2_with fail
      go_ret
      exact ⟨rfl, B4.out⟩
    · exact absurd HO.out hno
  · have HO := Lib.hid ho
    have CS := Lib.hid (fun W => (show Calls Try.prog 16 #[.agg #[.int .u32 0, .int .i64 0, .int .i64 0, .int .i64 0, .int .i64 0, .int .i64 0, .slice none 0 0], .agg #[.int .u32 0, .int .i64 0, .int .i64 0, .int .i64 0, .int .i64 0, .int .i64 0, .slice none 0 0]] W fun e w' => e = .returned (.bool true) ∧ Below W.heap.size W w' from
      Same_yes (PI 0) (PI 0) ⟨rfl, rfl, rfl, rfl, rfl, rfl, rfl, fun k hk => ⟨rfl, rfl⟩⟩ none none 0 0 W W.heap.size (RdT.nil _ _ _ _) (RdT.nil _ _ _ _) (Nat.le_refl _)))
    clear ho hr hn hz
    by_cases h5 : 500 < n
    · have z1 : (500 < (n : Int)) = True := by simp; omega
      clear h5
      go_enter Try.func6, Try.ntmps6
      go_wp2_with fail
      refine CG.out.mono ?_
      rintro e w1 ⟨hb, ⟨hok, _⟩ | ⟨_, rfl⟩⟩
      · exact absurd hok HO.out
      · simp only [zpl]
        have B1 := Lib.hid (hb.alloc hb.size (.cells #[.int .u32 0, .int .i64 0, .int .i64 0, .int .i64 0, .int .i64 0, .int .i64 0, .slice none 0 0] 25))
        clear hb
        go_wp2_with fail
        refine (G.out _).mono ?_
        rintro e w4 ⟨rfl, hb⟩
        have B4 := Lib.hid (B1.out.trans (hb.mono B1.out.size)); clear hb
        go_wp2_with fail
        go_ret
        exact ⟨rfl, B4.out⟩
    · have z1 : (500 < (n : Int)) = False := by simp; omega
      clear h5
      go_enter Try.func6, Try.ntmps6
      go_wp2_with fail
      refine CG.out.mono ?_
      rintro e w1 ⟨hb, ⟨hok, _⟩ | ⟨_, rfl⟩⟩
      · exact absurd hok HO.out
      · simp only [zpl]
        have B1 := Lib.hid (hb.alloc hb.size (.cells #[.int .u32 0, .int .i64 0, .int .i64 0, .int .i64 0, .int .i64 0, .int .i64 0, .slice none 0 0] 25))
        have V1 := VN.new w1 #[.int .u32 0, .int .i64 0, .int .i64 0, .int .i64 0, .int .i64 0, .int .i64 0, .slice none 0 0] 25
        have d0 := V1.c 0 _ rfl; have d1 := V1.c 1 _ rfl; have d2 := V1.c 2 _ rfl; have d3 := V1.c 3 _ rfl; have d4 := V1.c 4 _ rfl; have d5 := V1.c 5 _ rfl; have d6 := V1.c 6 _ rfl
        clear hb V1
        go_wp2_with fail
        refine (CS.out _).mono ?_
        rintro e w2 ⟨rfl, hb⟩
        have B2 := Lib.hid (B1.out.trans (hb.mono B1.out.size)); clear hb
        go_wp2_with fail
        refine (G.out _).mono ?_
        rintro e w4 ⟨rfl, hb⟩
        have B4 := Lib.hid (B2.out.trans (hb.mono B2.out.size)); clear hb
        go_wp2_with fail
        go_ret
        exact ⟨rfl, B4.out⟩
end Go.Proofs.Ytnaoodaadeimbaa
