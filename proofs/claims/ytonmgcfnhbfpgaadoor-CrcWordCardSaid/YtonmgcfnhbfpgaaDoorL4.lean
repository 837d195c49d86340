import Derived.Test.YtonmgcfnhbfpgaaDoorL2
import Derived.Laws.BytesArg
import Derived.Laws.Strings
import Derived.RegionTactic
import Derived.ChangeAlike
import Derived.Deep.RegionWith
import Derived.Deep.QuietTactic
import Derived.BigQuiet
import Derived.WalkSmall
namespace Go.Proofs.YtonmgcfnhbfpgaaDoor
open Go.RowKit Mem

/-- The string of bytes. -/
def str (l : List UInt8) : ByteArray := ⟨l.toArray⟩
theorem str_toList (l : List UInt8) : (str l).toList = l := by rw [ByteArray.toList_eq]; simp [str]
theorem run_str_rd (w : World) {B : Nat} {A : Option Addr} {c : Nat} {l : List UInt8} (h : Rd w B A c l) : (convert 23 9 (.slice A l.length c)).run Tryd.prog w = .ok (.string (str l)) w := by
  by_cases h0 : 0 < l.length
  · obtain ⟨b, o, rfl, _, hc⟩ := h.2.2.2 h0
    rw [run_convert_bytes_arg (P := Tryd.prog) w 23 5 Tryd.underlying23 Tryd.underlying5 b o l.length c (l.map fun x => (x.toNat : Int)) (by simp) (fun i hi => by rw [hc i hi]; simp [List.getD, hi]) 9 Tryd.underlying9]
    congr 2
    apply ByteArray.ext
    apply Array.toList_inj.1
    simp [strOfNums, str, Function.comp_def]
  · have : l = [] := List.eq_nil_of_length_eq_zero (by omega)
    subst this
    rcases A with _ | ad
    · exact run_convert_bytes_nil (P := Tryd.prog) w 23 5 Tryd.underlying23 Tryd.underlying5 _ _ 9 Tryd.underlying9
    · rw [run_convert_bytes_string w 23 9 5 (some ad) _ c Tryd.underlying23 Tryd.underlying5 Tryd.underlying9, run_bytesToString w ad _ c [] (by simp [loadCells, loadCellsFrom])]
      rfl

/-- Four bytes at k become others: other checks. -/
theorem num_inj (a b : List UInt8) (hl : a.length = b.length) (h : Crc.num a = Crc.num b) : a = b := by
  induction a generalizing b with
  | nil => exact (List.eq_nil_of_length_eq_zero hl.symm).symm
  | cons x a ih =>
    obtain ⟨y, b, rfl⟩ : ∃ y c, b = y :: c := by cases b with
      | nil => simp at hl
      | cons y c => exact ⟨y, c, rfl⟩
    simp only [Crc.num] at h
    have hx := x.toNat_lt
    have hy := y.toNat_lt
    have e1 : x.toNat = y.toNat := by omega
    have e2 : Crc.num a = Crc.num b := by omega
    rw [ih b (by simpa using hl) e2, UInt8.toNat_inj.1 e1]
theorem num_lt (l : List UInt8) : Crc.num l < 256 ^ l.length := by
  induction l with
  | nil => simp [Crc.num]
  | cons x l ih =>
    have hx := x.toNat_lt
    rw [List.length_cons, Nat.pow_succ, Crc.num]
    omega
theorem check_word (a x y d : List UInt8) (hx : x.length = 4) (hy : y.length = 4) (h : x ≠ y) : Crc.check (a ++ (x ++ d)) ≠ Crc.check (a ++ (y ++ d)) := by
  have hx32 := num_lt x
  have hy32 := num_lt y
  rw [hx] at hx32
  rw [hy] at hy32
  refine Crc.check_ne _ _ (8 * a.length) (Crc.num x ^^^ Crc.num y) (by simp [hx, hy]) ?_ (by simp; omega) (Nat.xor_lt_two_pow (n := 32) hx32 hy32) (Crc.xor_ne _ _ fun e => h (num_inj _ _ (by rw [hx, hy]) e))
  rw [Crc.num_app, Crc.num_app, Crc.num_app, Crc.num_app, Crc.xor_swap, Nat.xor_self, Nat.zero_xor, hx, hy]
  simp only [← Crc.shl_eq, ← Nat.shiftLeft_xor_distrib]
  congr 1
  rw [Crc.xor_swap, Nat.xor_self, Nat.xor_zero]
theorem split4 (l : List UInt8) (k : Nat) : l = l.take k ++ ((l.drop k).take 4 ++ l.drop (k + 4)) := by
  rw [← List.drop_drop, List.take_append_drop, List.take_append_drop]

/-- Check of a list of one part, of three, wherever it lies above what the parts are read from. -/
theorem Check1_at (W W0 : World) (g : Nat) (A : Option Addr) (n c : Nat) (l : List UInt8) (m : Nat) (hb : Below W0.heap.size W0 W) (hg : g < W.heap.size) (h0 : W.cell? ⟨g, 0, none⟩ = some (.slice A n c)) (hn : l.length = n) (hl : Rd W0 W0.heap.size A c l) (hW : Tab W0) (hm : Crc.check l = m) :
    Calls Tryd.prog 8 #[.slice (some ⟨g, 0, none⟩) 1 1] W fun e w' => e = .returned (.int .u32 (m : Int)) ∧ W = w' := by
  subst hn; subst hm
  refine (Check_any (some ⟨g, 0, none⟩) 1 [⟨A, c, l⟩] W (hW.below hb hW.1) ⟨by simp, by unfold maxLen; omega, fun e => (by cases e), fun _ => ⟨g, 0, rfl, hg, fun i hi => ?_⟩⟩).mono ?_
  · simp at hi
    subst hi
    exact ⟨h0, (hl.below hb).more hb.size⟩
  · rintro e w' ⟨rfl, rfl⟩
    exact ⟨by simp [flat], rfl⟩
theorem Check3_at (W W0 : World) (g : Nat) (p q r : Part) (np nq nr m : Nat) (hb : Below W0.heap.size W0 W) (hg : g < W.heap.size) (h0 : W.cell? ⟨g, 0, none⟩ = some (.slice p.A np p.c)) (h1 : W.cell? ⟨g, 1, none⟩ = some (.slice q.A nq q.c)) (h2 : W.cell? ⟨g, 2, none⟩ = some (.slice r.A nr r.c))
    (hp : p.l.length = np) (hq : q.l.length = nq) (hr : r.l.length = nr) (rp : Rd W0 W0.heap.size p.A p.c p.l) (rq : Rd W0 W0.heap.size q.A q.c q.l) (rr : Rd W0 W0.heap.size r.A r.c r.l) (hW : Tab W0) (hm : Crc.check (p.l ++ (q.l ++ r.l)) = m) :
    Calls Tryd.prog 8 #[.slice (some ⟨g, 0, none⟩) 3 3] W fun e w' => e = .returned (.int .u32 (m : Int)) ∧ W = w' := by
  subst hp; subst hq; subst hr; subst hm
  refine (Check_any (some ⟨g, 0, none⟩) 3 [p, q, r] W (hW.below hb hW.1) ⟨by simp, by unfold maxLen; omega, fun e => (by cases e), fun _ => ⟨g, 0, rfl, hg, fun i hi => ?_⟩⟩).mono ?_
  · match i, hi with
    | 0, _ => exact ⟨h0, (rp.below hb).more hb.size⟩
    | 1, _ => exact ⟨h1, (rq.below hb).more hb.size⟩
    | 2, _ => exact ⟨h2, (rr.below hb).more hb.size⟩
  · rintro e w' ⟨rfl, rfl⟩
    exact ⟨by simp [flat], rfl⟩

theorem below_1 (w : World) (o : Obj) : Below w.heap.size w (w.alloc o).drew := ((Below.refl _ w).alloc (Nat.le_refl _) o).drew
theorem below_2 (w : World) (o p : Obj) : Below w.heap.size w ((w.alloc o).alloc p).drew := (below_two w o p).drew

set_option maxRecDepth 100000 in
set_option maxHeartbeats 2000000 in
theorem crcWord_mid (b o c : Nat) (l : List UInt8) (k word : Nat) (a : Int) (w : World) (hw : Tab w) (hl : Rd w w.heap.size (some ⟨b, o, none⟩) c l) (h4 : 4 ≤ l.length) (h42 : l.length ≤ 4200) (hword : word < 4294967296) (ha0 : 0 ≤ a) (ha1 : a ≤ 65535)
    (hk : a % ((l.length : Int) - 3) = (k : Int)) (hk4 : k + 4 ≤ l.length) (s : Bool) (m1 m2 : Nat)
    (h1 : Crc.check l = m1) (h2 : Crc.check (l.take k ++ (pl word ++ l.drop (k + 4))) = m2) (hs : ((str ((l.drop k).take 4)).toList == (str (pl word)).toList) = s) (h3 : ((m1 : Int) == (m2 : Int)) = s) :
    Calls Tryd.prog 5 #[.slice (some ⟨b, o, none⟩) l.length c, .int .u16 a, .int .u32 (word : Int)] w fun e w' => e = .returned (.bool true) ∧ Below w.heap.size w w' := by
  have hpos : (0 : Int) < (l.length : Int) - 3 := by omega
  have HL := Lib.hid hl
  have HW := Lib.hid hw
  have hcl := hl.1
  have hcm := hl.2.1
  have h140 : l.length ≤ 140737488355328 := by omega
  unfold maxLen at hcm
  have hl4 : ((l.drop k).take 4).length = 4 := by simp; omega
  have hr1 : Rd w w.heap.size (some ⟨b, o + k, none⟩) (c - k) ((l.drop k).take 4) := (HL.out.drop k (by omega)).take 4
  have hs1 : ∀ n, (convert 23 9 (.slice (some ⟨b, o + k, none⟩) 4 (c - k))).run Tryd.prog ((w.alloc (.cells (bcs (pl word)) 5)).drewN n) = .ok (.string (str ((l.drop k).take 4))) ((w.alloc (.cells (bcs (pl word)) 5)).drewN n) := fun n => by
    have h := run_str_rd ((w.alloc (.cells (bcs (pl word)) 5)).drewN n) (hr1.below (below_drewN ((Below.refl _ w).alloc (Nat.le_refl _) (.cells (bcs (pl word)) 5)) n))
    rw [hl4] at h
    exact h
  have hs2 : ∀ n, (convert 23 9 (.slice (some ⟨w.heap.size, 0, none⟩) 4 4)).run Tryd.prog ((w.alloc (.cells (bcs (pl word)) 5)).drewN n) = .ok (.string (str (pl word))) ((w.alloc (.cells (bcs (pl word)) 5)).drewN n) := fun n =>
    run_str_rd ((w.alloc (.cells (bcs (pl word)) 5)).drewN n) ((Rd.lit w (pl word) 5 (w.heap.size + 1) (by omega) (by simp [pl, maxLen])).below (below_drewN (Below.refl _ _) n))
  have hB1 : ∀ n, Below w.heap.size w ((w.alloc (.cells (bcs (pl word)) 5)).drewN n) := fun n => below_drewN ((Below.refl _ w).alloc (Nat.le_refl _) _) n
  have hP : ∀ n, Rd ((w.alloc (.cells (bcs (pl word)) 5)).drewN n) ((w.alloc (.cells (bcs (pl word)) 5)).drewN n).heap.size (some ⟨w.heap.size, 0, none⟩) 4 (pl word) := fun n =>
    (Rd.lit w (pl word) 5 ((w.alloc (.cells (bcs (pl word)) 5)).drewN n).heap.size (by simp) (by simp [pl, maxLen])).below (below_drewN (Below.refl _ _) n)
  have HB1 := Lib.hid hB1
  have HP := Lib.hid hP
  have H1 := Lib.hid h1
  have H2 := Lib.hid h2
  have hk0 : (0 : Int) ≤ (k : Int) + 4 := by omega
  have HLt : Hid ((l.take k).length = k) := Lib.hid (by simp; omega)
  clear hl hw h1 h2 hr1 hl4 hB1 hP
  go_enter Tryd.func5, Tryd.ntmps5
  go_wp2_with (go_at_call 11; refine (place_any word _ hword).mono ?_; rintro e w1 ⟨rfl, rfl⟩)
  go_quiet (fail)
  go_wp2_with fail
  clear hs1 hs2
  have hB := Lib.hid (HB1.out nq)
  have hR := Lib.hid (HP.out nq)
  clear HB1 HP
  generalize (w.alloc (.cells (bcs (pl word)) 5)).drewN nq = W1 at hB hR ⊢
  generalize w.heap.size = g1 at hR ⊢
  have HT := Lib.hid (HW.out.below hB.out HW.out.1)
  have hRl := (HL.out.below hB.out).more hB.out.size
  have HR := Lib.hid hRl
  have HRt := Lib.hid (hRl.take k)
  obtain ⟨At, ct, hAt, hct, hRd0⟩ : ∃ At ct, (if c = k + 4 then some ⟨b, o, none⟩ else some ⟨b, o + (k + 4), none⟩) = At ∧ c - (k + 4) = ct ∧ Rd W1 W1.heap.size At ct (l.drop (k + 4)) := by
    refine ⟨_, _, rfl, rfl, ?_⟩
    by_cases hcap : c = k + 4
    · rw [if_pos hcap]
      have e : l.drop (k + 4) = [] := List.eq_nil_of_length_eq_zero (by simp; omega)
      rw [e]
      exact Rd.empty _ _ (by unfold maxLen; omega) (fun h => by cases h)
    · rw [if_neg hcap]
      exact hRl.drop (k + 4) hk4
  have HRd := Lib.hid hRd0
  have HLd : Hid ((l.drop (k + 4)).length = l.length - (k + 4)) := Lib.hid (by simp)
  have HTd := Lib.hid (fun o p => HT.out.below (below_2 W1 o p) HT.out.1)
  have hpl : Hid ((pl word).length = 4) := Lib.hid rfl
  have hle4 : (k : Int) + 4 ≤ (l.length : Int) := by omega
  have hto : ((k : Int) + 4).toNat = k + 4 := by omega
  have hwr : IntKind.i64.wrap ((k : Int) + 4) = (k : Int) + 4 := IntWalk.i64_in _ (by omega)
  have hk5 : k ≤ l.length := by omega
  have HB0 := Lib.hid hB.out.size
  clear hRl hRd0 hs h4 h42 hword ha0 ha1 hk hpos hcm h140 HL HW
  go_region_with (first
      | (go_at_call 8; (with_reducible refine (Check1_at _ W1 _ _ _ _ l m1 (by first | exact below_1 _ _ | exact below_2 _ _ _) (by simp; try omega) (by simp) rfl HR.out HT.out H1.out).mono ?_); rintro e w2 ⟨rfl, rfl⟩)
      | (go_at_call 8; (with_reducible refine (Check3_at _ W1 _ ⟨some ⟨b, o, none⟩, c, l.take k⟩ ⟨some ⟨g1, 0, none⟩, 4, pl word⟩ ⟨At, ct, l.drop (k + 4)⟩ _ _ _ m2 (by first | exact below_1 _ _ | exact below_2 _ _ _) (by simp; try omega) (by simp) (by simp) (by simp) HLt.out hpl.out HLd.out HRt.out hR.out HRd.out HT.out H2.out).mono ?_); rintro e w2 ⟨rfl, rfl⟩)
      | (go_at_call 10; (with_reducible refine (goes_any _ (HTd.out _ _)).mono ?_); rintro e w3 ⟨rfl, hb3⟩; have HB3 := Lib.hid hb3; clear hb3))
  all_goals
    go_wp2_with fail
    go_ret
    exact ⟨rfl, hB.out.trans (((below_2 _ _ _).trans (HB3.out.mono (below_2 _ _ _).size)).mono HB0.out)⟩
end Go.Proofs.YtonmgcfnhbfpgaaDoor
