import Derived.Test.YtonmgcfnhbfpgaaDoorL6
import Derived.Laws.BytesArg
import Derived.Laws.Strings
import Derived.Deep.LoopGhost
namespace Go.Proofs.YtonmgcfnhbfpgaaDoor
open Go.RowKit Mem

/-- The string of bytes. -/
def stc (l : List UInt8) : ByteArray := ⟨l.toArray⟩
theorem run_stc_rd (w : World) {B : Nat} {A : Option Addr} {c : Nat} {l : List UInt8} (h : Rd w B A c l) : (convert 23 9 (.slice A l.length c)).run Tryd.prog w = .ok (.string (stc l)) w := by
  by_cases h0 : 0 < l.length
  · obtain ⟨b, o, rfl, _, hc⟩ := h.2.2.2 h0
    rw [run_convert_bytes_arg (P := Tryd.prog) w 23 5 Tryd.underlying23 Tryd.underlying5 b o l.length c (l.map fun x => (x.toNat : Int)) (by simp) (fun i hi => by rw [hc i hi]; simp [List.getD, hi]) 9 Tryd.underlying9]
    congr 2
    apply ByteArray.ext
    apply Array.toList_inj.1
    simp [strOfNums, stc, Function.comp_def]
  · have : l = [] := List.eq_nil_of_length_eq_zero (by omega)
    subst this
    rcases A with _ | ad
    · exact run_convert_bytes_nil (P := Tryd.prog) w 23 5 Tryd.underlying23 Tryd.underlying5 _ _ 9 Tryd.underlying9
    · rw [run_convert_bytes_string w 23 9 5 (some ad) _ c Tryd.underlying23 Tryd.underlying5 Tryd.underlying9, run_bytesToString w ad _ c [] (by simp [loadCells, loadCellsFrom])]
      rfl

theorem flat_app (a b : List Part) : flat (a ++ b) = flat a ++ flat b := by unfold flat; rw [List.map_append, List.flatten_append]
theorem flat_cons (p : Part) (b : List Part) : flat (p :: b) = p.l ++ flat b := rfl
theorem flat_mid (ps : List Part) (k : Nat) (hk : k < ps.length) : ((flat ps).drop (flat (ps.take k)).length).take ps[k].l.length = ps[k].l := by
  have h : flat ps = flat (ps.take k) ++ (ps[k].l ++ flat (ps.drop (k + 1))) := by
    have h1 : ps = ps.take k ++ ps[k] :: ps.drop (k + 1) := by rw [← List.drop_eq_getElem_cons hk, List.take_append_drop]
    have h2 : flat (ps.take k ++ ps[k] :: ps.drop (k + 1)) = flat (ps.take k) ++ (ps[k].l ++ flat (ps.drop (k + 1))) := by
      rw [flat_app, flat_cons]
    rw [← h1] at h2
    exact h2
  rw [h, List.drop_left, List.take_left]
theorem flat_le (ps : List Part) (k : Nat) (hk : k < ps.length) : (flat (ps.take k)).length + ps[k].l.length ≤ (flat ps).length := by
  have h1 := flat_take_le ps (k + 1)
  rw [flat_take ps k hk, List.length_append] at h1
  exact h1

set_option maxRecDepth 100000 in
set_option maxHeartbeats 2000000 in
theorem crcChecks_core (A : Option Addr) (c : Nat) (ps : List Part) (w : World) (hw : Tab w) (hp : Pts w w.heap.size A c ps) (h20 : ps.length ≤ 20) :
    Calls Tryd.prog 3 #[.slice A ps.length c] w fun e w' => e = .returned (.bool true) ∧ Below w.heap.size w w' := by
  have HW := Lib.hid hw
  have HP := Lib.hid hp
  clear hw hp
  go_enter Tryd.func3, Tryd.ntmps3
  go_wp2_with fail
  go_loopw [3, 4] (fun v i wz => ∃ k : Nat, k ≤ ps.length ∧ i = .int .i64 k ∧ Own 5 wz w.heap.size v (flat (ps.take k)) ∧ Below w.heap.size w wz ∧ (flat (ps.take k)).length ≤ 2000 * k) (fun _ i _ => ps.length - (intOf i).toNat)
  case atStart => exact ⟨0, Nat.zero_le _, rfl, by simpa [flat] using Own.nil 5 w w.heap.size, Below.refl _ _, by simp [flat]⟩
  case round =>
    obtain ⟨k, hk, rfl, hown, hbel, hsum⟩ := hrel
    have HO := Lib.hid hown
    have HB := Lib.hid hbel
    clear hown hbel
    by_cases hlt : k < ps.length
    · obtain ⟨b, o, rfl, hb, hc⟩ := (HP.out.below HB.out).2.2.2 (by omega)
      have hcell := (hc k hlt).1
      have HR := Lib.hid (hc k hlt).2
      clear hc
      have hmax : ps[k].l.length ≤ 9223372036854775807 := by have h1 := HR.out.1; have h2 := HR.out.2.1; unfold maxLen at h2; omega
      by_cases hbig : 2000 < ps[k].l.length
      · go_wp2_with fail
        go_ret
        exact ⟨rfl, HB.out⟩
      · have H := Lib.hid (flat_take ps k hlt)
        go_wp2_with (at_builtin; refine wpList_append_rd byteTy rfl _ _ rfl w.heap.size _ _ rfl HO.out w.heap.size _ _ _ _ rfl rfl HR.out (by omega) HB.out.size ?_; intro v2 w2 hown2 hg2 hat2)
        go_roundw
        case rel => exact ⟨k + 1, by omega, by go_num, by rw [H.out]; exact hown2, own_trans HB.out hg2 fun q hq => (World.ownsRow.lt HO.out q hq).1, by rw [H.out, List.length_append]; omega⟩
        case measure => simp [intOf]; omega
    · obtain rfl : k = ps.length := by omega
      rw [List.take_length] at HO hsum
      have HP1 := Lib.hid (((HP.out.below HB.out).more HB.out.size))
      have HW1 := Lib.hid (HW.out.below HB.out HW.out.1)
      obtain ⟨A1, c1, rfl, hr1, _, hspot⟩ := HO.out.form
      have HSP := Lib.hid hspot
      clear hspot
      have HR1 := Lib.hid hr1
      have h1 : ∀ j (hj : j < ps.length), (flat (ps.take j)).length + ps[j].l.length ≤ (flat ps).length := flat_le ps
      have HF := Lib.hid h1
      have h40 : (flat ps).length ≤ 40000 := by omega
      clear hr1 h1 hsum
      go_wp2_with (go_at_call 8; refine (Check_any _ _ ps _ HW1.out HP1.out).mono ?_; rintro e w1 ⟨rfl, rfl⟩)
      go_loopw [6, 7] (fun v i wz => ∃ k : Nat, k ≤ ps.length ∧ i = .int .i64 k ∧ v = .int .i64 ((flat (ps.take k)).length : Int) ∧ ∃ nq, wz = wr.drewN nq) (fun _ i _ => ps.length - (intOf i).toNat)
      case atStart => exact ⟨0, Nat.zero_le _, rfl, rfl, 0, rfl⟩
      case round =>
        obtain ⟨k, hk, rfl, rfl, nq, rfl⟩ := hrel
        by_cases hlt : k < ps.length
        · obtain ⟨b, o, rfl, hb, hc⟩ := HP1.out.2.2.2 (by omega)
          obtain ⟨hcell, hr⟩ := hc k hlt
          clear hc
          have H := Lib.hid (flat_take ps k hlt)
          have hmid := flat_mid ps k hlt
          have hle := HF.out k hlt
          have hk1 : k + 1 ≤ ps.length := hlt
          have hs1 : ∀ n, (convert 23 9 (.slice ps[k].A ps[k].l.length ps[k].c)).run Tryd.prog (wr.drewN n) = .ok (.string (stc ps[k].l)) (wr.drewN n) := fun n => run_stc_rd _ (hr.below (below_drewN (Below.refl _ _) n))
          have hcl := HR1.out.1
          have hcm := HR1.out.2.1
          unfold maxLen at hcm
          have hrs : ∀ As, (∃ b' o', A1 = some ⟨b', o', none⟩ ∧ As = (if c1 = (flat (ps.take k)).length then some ⟨b', o', none⟩ else some ⟨b', o' + (flat (ps.take k)).length, none⟩)) ∨ (A1 = none ∧ As = none) → ∀ n, (convert 23 9 (.slice As ps[k].l.length (c1 - (flat (ps.take k)).length))).run Tryd.prog (wr.drewN n) = .ok (.string (stc ps[k].l)) (wr.drewN n) := by
            intro As hAs n
            have hR : Rd wr wr.heap.size As (c1 - (flat (ps.take k)).length) ps[k].l := by
              rw [← hmid]
              rcases hAs with ⟨b', o', rfl, rfl⟩ | ⟨rfl, rfl⟩
              · by_cases hcap : c1 = (flat (ps.take k)).length
                · rw [if_pos hcap]
                  have e : (flat ps).drop (flat (ps.take k)).length = [] := List.eq_nil_of_length_eq_zero (by simp; omega)
                  rw [e, List.take_nil]
                  exact Rd.empty _ _ (by unfold maxLen; omega) (fun h => by cases h)
                · rw [if_neg hcap]
                  exact (HR1.out.drop _ (by omega)).take _
              · have hz := HR1.out.2.2.1 rfl
                have e : flat ps = [] := List.eq_nil_of_length_eq_zero (by omega)
                rw [e, List.drop_nil, List.take_nil]
                exact Rd.empty _ _ (by unfold maxLen; omega) (fun _ => by omega)
            exact run_stc_rd _ (hR.below (below_drewN (Below.refl _ _) n))
          have HRS := Lib.hid hrs
          have hend : Hid ((flat (ps.take (k + 1))).length = (flat (ps.take k)).length + ps[k].l.length) := Lib.hid (by rw [H.out, List.length_append])
          have hlec : (flat (ps.take k)).length + ps[k].l.length ≤ c1 := by omega
          clear hrs hr hmid H
          generalize ps[k] = p at hcell hs1 HRS hend hle hlec
          generalize (flat (ps.take k)).length = a at HRS hend hle hlec ⊢
          generalize p.l.length = n at hcell hs1 HRS hend hle hlec
          generalize stc p.l = S at hs1 HRS
          rcases A1 with _ | ⟨g, og, sp⟩
          · have hz := HR1.out.2.2.1 rfl
            obtain rfl : a = 0 := by omega
            obtain rfl : n = 0 := by omega
            obtain rfl : c1 = 0 := hz
            have hs2 := HRS.out none (.inr ⟨rfl, rfl⟩)
            clear hle hlec hcl hcm
            go_wp2_with fail
            go_quiet (fail)
            go_wp2_with fail
            go_roundw
            case rel => exact ⟨k + 1, hk1, by go_num, by rw [hend.out]; go_num, _, rfl⟩
            case measure => simp [intOf]; omega
          · obtain rfl : sp = none := HSP.out _ rfl
            obtain ⟨As, hAs⟩ : ∃ As, (if c1 = a then some (⟨g, og, none⟩ : Addr) else some ⟨g, og + a, none⟩) = As := ⟨_, rfl⟩
            have hs2 := HRS.out As (.inl ⟨g, og, rfl, hAs.symm⟩)
            have hwr : IntKind.i64.wrap ((a : Int) + (n : Int)) = (a : Int) + (n : Int) := IntWalk.i64_in _ (by omega)
            have hto : ((a : Int) + (n : Int)).toNat = a + n := by omega
            have h0 : (0 : Int) ≤ (a : Int) + (n : Int) := by omega
            have hge : (a : Int) ≤ (a : Int) + (n : Int) := by omega
            have hca : (a : Int) + (n : Int) ≤ (c1 : Int) := by omega
            go_wp2_with fail
            go_quiet (fail)
            go_wp2_with fail
            go_roundw
            case rel => exact ⟨k + 1, hk1, by go_num, by rw [hend.out]; go_num, _, rfl⟩
            case measure => simp [intOf]; omega
        · obtain rfl : k = ps.length := by omega
          go_wp2_with (first
            | (go_at_call 9; refine (ref_any _ _ _ _ (by exact HR1.out.below (below_drewN (Below.refl _ _) nq))).mono ?_; rintro e w2 ⟨rfl, rfl⟩)
            | (go_at_call 10; refine (goes_any _ (by exact HW1.out.below (below_drewN (Below.refl wr.heap.size wr) nq) HW1.out.1)).mono ?_; rintro e w3 ⟨rfl, hb⟩))
          go_ret
          exact ⟨rfl, HB.out.trans (((below_drewN (Below.refl wr.heap.size wr) nq).trans hb).mono HB.out.size)⟩

set_option maxHeartbeats 1000000 in
theorem crcChecks_big (A : Option Addr) (n c : Nat) (w : World) (hn : 20 < n) (hmax : n ≤ 9223372036854775807) :
    Calls Tryd.prog 3 #[.slice A n c] w fun e w' => e = .returned (.bool true) ∧ Below w.heap.size w w' := by
  go_enter Tryd.func3, Tryd.ntmps3
  go_wp2_with fail
  go_ret
  exact ⟨rfl, Below.refl _ _⟩
theorem crcChecks_walk (A : Option Addr) (n c : Nat) (ps : List Part) (hn : ps.length = n) (w : World) (hw : Tab w) (hp : Pts w w.heap.size A c ps) :
    Calls Tryd.prog 3 #[.slice A n c] w fun e w' => e = .returned (.bool true) ∧ Below w.heap.size w w' := by
  subst hn
  by_cases h20 : 20 < ps.length
  · exact crcChecks_big A _ c w h20 (by have := hp.1; have := hp.2.1; unfold maxLen at this; omega)
  · exact crcChecks_core A c ps w hw hp (by omega)
end Go.Proofs.YtonmgcfnhbfpgaaDoor
