import Derived.Test.YtlfkafcmdndlgaaDoorCi6
import Derived.Test.YtlfkafcmdndlgaaDoorCi1
import Derived.Test.YtlfkafcmdndlgaaDoorRows
import Derived.Lib.SmallJoins
import Derived.Stop.LaidErr
import Derived.LaidMore
import Derived.ProofKit
namespace Go.Proofs.YtlfkafcmdndlgaaDoor.Ci
open Go.RowKit Mem Go.Sort

theorem of_out {z : Int} (w : World) (h : z < -719162 ∨ 2932896 < z) :
    Calls Tryd.prog 21 #[.int .i64 z] w fun e w' => e = .returned (.tuple #[.agg #[.int .i64 0, .int .i64 0, .int .i64 0], .int .i64 1]) ∧ Below w.heap.size w w' := by
  have hd : (z < -719162) ∨ (¬ z < -719162 ∧ 2932896 < z) := by omega
  clear h
  rcases hd with h | ⟨h0, h⟩ <;>
  ( go_enter Tryd.func21, Tryd.ntmps21
    go_wp2_with fail
    exact bodyPost_ret (v := .tuple #[.agg #[.int .i64 0, .int .i64 0, .int .i64 0], .int .i64 1]) (by simp [results, Tryd.results21, go_sem]) rfl ⟨rfl, (((Below.refl _ _).alloc (Nat.le_refl _) _).alloc (by simp) _)⟩)
theorem of_yes {y m d : Int} (w : World) (hw : Lens w) (h : vldB y m d = true) :
    Calls Tryd.prog 21 #[.int .i64 (num y m d)] w fun e w' => e = .returned (.tuple #[.agg #[.int .i64 y, .int .i64 m, .int .i64 d], .int .i64 0]) ∧ Below w.heap.size w w' := by
  have b := num_bd h
  refine (of_in _ w hw b.1 b.2).mono ?_
  rintro e w' ⟨y', m', d', rfl, ⟨hv, hn⟩, hb⟩
  obtain ⟨rfl, rfl, rfl⟩ := num_inj hv h hn
  exact ⟨rfl, hb⟩

/-- What the listed variables hold, as the walks take it. -/
structure Lw (w : World) : Prop where
  lens : Lens w
  pow : Lib.TabIs Tryd.prog w "internal/strconv.uint64pow10" .u64 Lib.pow10Tab
  syn : ∃ (ev : Value), w.cell? ⟨1, 0, none⟩ = some ev ∧ (ev = .nilIface ∨ ∃ te pe, ev = .iface te pe)
theorem gPow : Tryd.prog.globalNamed "internal/strconv.uint64pow10" = some 3 := by kernel_rfl
theorem Lw.size {w : World} (h : Lw w) : 1 < w.heap.size := by
  obtain ⟨ev, h1, _⟩ := h.syn
  exact World.block_lt_of_cell? w _ h1
theorem Lw.below {w w' : World} {B : Nat} (h : Lw w) (hb : Below B w w') (hB : w.heap.size ≤ B) : Lw w' :=
  ⟨h.lens.below hb (by have := h.size; omega), Joins.tab_stays gPow h.pow hb hB, by
    obtain ⟨ev, h1, h2⟩ := h.syn
    exact ⟨ev, (hb.cell (p := ⟨1, 0, none⟩) (by have := h.size; show 1 < B; omega)).trans h1, h2⟩⟩

def st (l : List UInt8) : ByteArray := ⟨l.toArray⟩
theorem st_size (l : List UInt8) : (st l).size = l.length := by show l.toArray.size = l.length; simp
theorem st_append (p q : List UInt8) : st p ++ st q = st (p ++ q) := by
  apply ByteArray.ext
  apply Array.toList_inj.1
  simp [st, ByteArray.data_append]
theorem st_list (l : List UInt8) : (st l).data.toList = l := by simp [st]
theorem st_add (W : World) (p q : List UInt8) (h : p.length + q.length ≤ 9223372036854775807) : (Op.stringOp .add (st p) (st q)).run Tryd.prog W = .ok (.string (st (p ++ q))) W := by
  have e1 : (st p).size = p.length := st_size p
  have e2 : (st q).size = q.length := st_size q
  unfold Op.stringOp
  simp only [e1, e2]
  rw [if_neg (by simp [IntKind.max, IntKind.bits, IntKind.signed]; omega), st_append]
  rfl
theorem repeat_zero (c : Nat) : Lib.repeatL [48] c = List.replicate c 48 := by
  have := Lib.repeatL_replicate 48 1 c; simpa using this

theorem extra105 : Builder.Extra Tryd.prog Tryd.lays105_ren := {
  sizeBuilder := by kernel_rfl
  liesBuilder := by kernel_rfl
  t5 := Tryd.underlying5
  a5 := Tryd.isAgg5
  z5 := Tryd.sizeOf5
  v5 := Tryd.zeroValue5
  infoByte := by kernel_rfl
  cellsByte := by kernel_rfl
  sizeByte := by kernel_rfl
  neB5 := by decide }
set_option maxHeartbeats 1000000 in
theorem digits_any (n k : Nat) (w : World) (hw : Lw w) (hn : n < 10000) (hk : k ≤ 4) (hl : (Lib.decDigits n).length ≤ k) :
    Calls Tryd.prog 31 #[.int .i64 n, .int .i64 k] w fun e w' => e = .returned (.string (st (List.replicate (k - (Lib.decDigits n).length) 48 ++ Lib.decDigits n))) ∧ Below w.heap.size w w' := by
  have c1 := Any.strconv_Itoa Tryd.lays171 (n : Int) (by omega) (by omega) w hw.pow
  rw [Lib.itoa_nonneg] at c1
  change Calls Tryd.prog 37 _ _ _ at c1
  have C1 := Lib.hid c1; clear c1
  have hs := hw.size
  clear hw
  generalize Lib.decDigits n = l at *
  go_enter Tryd.func31, Tryd.ntmps31
  go_wp2_with fail
  refine C1.out.mono ?_
  rintro e w1 ⟨rfl, q, os, hw1⟩
  have hb := Lib.hid (hw1 ▸ grow_below q os (Nat.le_refl _) : Below w.heap.size w w1)
  clear hw1
  go_wp2_with fail
  have E := Lib.hid (show ((k : Int) - (l.length : Int)) = ((k - l.length : Nat) : Int) by omega)
  rw [E.out]
  have c2 := Any.strings_Repeat Tryd.lays105 extra105 (st [48]) (k - l.length) w1 (by omega) (by rw [st_size]; simp; omega)
  rw [st_list, repeat_zero] at c2
  change Calls Tryd.prog 38 _ _ _ at c2
  refine c2.mono ?_
  rintro e w2 ⟨rfl, hb2⟩
  have B2 := Lib.hid (hb.out.trans (hb2.mono hb.out.size))
  clear hb2 c2
  have hsum : (List.replicate (k - l.length) (48 : UInt8)).length + l.length ≤ 9223372036854775807 := by rw [List.length_replicate]; omega
  obtain ⟨z, hz⟩ : ∃ z, List.replicate (k - l.length) (48 : UInt8) = z := ⟨_, rfl⟩
  rw [hz] at hsum ⊢
  have Z := Lib.hid hz; clear hz
  go_wp2_with fail
  go_ret
  exact ⟨by show Ending.returned (.string (st z ++ st l)) = _; rw [st_append, Z.out], B2.out⟩
theorem digits4 {n : Nat} (w : World) (hw : Lw w) (h : n < 10000) :
    Calls Tryd.prog 31 #[.int .i64 n, .int .i64 4] w fun e w' => e = .returned (.string (st (d4 n))) ∧ Below w.heap.size w w' := by
  have := digits_any n 4 w hw h (by omega) (dec_len4 h)
  rw [pad4 h] at this; exact this
theorem digits2 {n : Nat} (w : World) (hw : Lw w) (h : n < 100) :
    Calls Tryd.prog 31 #[.int .i64 n, .int .i64 2] w fun e w' => e = .returned (.string (st (d2 n))) ∧ Below w.heap.size w w' := by
  have := digits_any n 2 w hw (by omega) (by omega) (dec_len2 h)
  rw [pad2 h] at this; exact this

theorem keepT {w W w1 : World} {b : Nat} {x y z : Value} (hb : Below W.heap.size W w1) (k : Below w.heap.size w W ∧ W.cell? ⟨b, 0, none⟩ = some x ∧ W.cell? ⟨b, 1, none⟩ = some y ∧ W.cell? ⟨b, 2, none⟩ = some z) :
    Below w.heap.size w w1 ∧ w1.cell? ⟨b, 0, none⟩ = some x ∧ w1.cell? ⟨b, 1, none⟩ = some y ∧ w1.cell? ⟨b, 2, none⟩ = some z :=
  ⟨k.1.trans (hb.mono k.1.size), keep3 hb (World.block_lt_of_cell? _ _ k.2.1) k.2⟩

set_option maxHeartbeats 1000000 in
theorem text_nat (y m d : Nat) (w : World) (hw : Lw w) (h : vldB y m d = true) :
    Calls Tryd.prog 15 #[.agg #[.int .i64 y, .int .i64 m, .int .i64 d]] w fun e w' => e = .returned (.string (st (txt y m d))) ∧ Below w.heap.size w w' := by
  have hs := hw.size
  have HL := Lib.hid (fun W (h : Below w.heap.size w W) => hw.below h (Nat.le_refl _)); clear hw
  obtain ⟨h1, h2, h3, h4, h5, h6⟩ := vld_of h
  have lb := long_bd y m
  have y4 : y < 10000 := by omega
  have m2 : m < 100 := by omega
  have d2' : d < 100 := by omega
  have H := Lib.hid h; clear h lb
  go_enter Tryd.func15, Tryd.ntmps15
  go_wp2_with fail
  refine (valid_yes _ (HL.out _ ((Below.refl _ _).alloc (Nat.le_refl _) _)).lens (by simp) H.out).mono ?_
  rintro e w1 ⟨rfl, hb⟩
  have B1 := Lib.hid (((Below.refl _ _).alloc (Nat.le_refl _) _).trans (hb.mono (by simp)) : Below w.heap.size w w1)
  have q0 : w1.cell? ⟨w.heap.size, 0, none⟩ = some (.int .i64 y) := by rw [(bcell hb).1 _ _ (by simp)]; simp
  have q1 : w1.cell? ⟨w.heap.size, 1, none⟩ = some (.int .i64 m) := by rw [(bcell hb).1 _ _ (by simp)]; simp
  have q2 : w1.cell? ⟨w.heap.size, 2, none⟩ = some (.int .i64 d) := by rw [(bcell hb).1 _ _ (by simp)]; simp
  clear hb
  have T := Lib.hid (show ((((st (d4 y)) ++ st [45]) ++ st (d2 m)) ++ st [45]) ++ st (d2 d) = st (txt y m d) by simp only [st_append]; congr 1)
  have s1 : (st (d4 y)).size = 4 := by rw [st_size]; rfl
  have s2 : (st (d2 m)).size = 2 := by rw [st_size]; rfl
  have s3 : (st (d2 d)).size = 2 := by rw [st_size]; rfl
  go_wp2_with fail
  go_region_held3 (fun w' => Below w.heap.size w w' ∧ w'.cell? ⟨w.heap.size, 0, none⟩ = some (.int .i64 y) ∧ w'.cell? ⟨w.heap.size, 1, none⟩ = some (.int .i64 m) ∧ w'.cell? ⟨w.heap.size, 2, none⟩ = some (.int .i64 d))
    (first | exact ⟨B1.out.drew, q0, q1, q2⟩ | exact keepT hb ‹_› | go_keep)
    ((go_at_call 31; first
        | (with_reducible refine (digits4 (n := y) _ (HL.out _ (And.left ‹_›)) y4).mono ?_; rintro e w2 ⟨rfl, hb⟩)
        | (with_reducible refine (digits2 (n := m) _ (HL.out _ (And.left ‹_›)) m2).mono ?_; rintro e w2 ⟨rfl, hb⟩)
        | (with_reducible refine (digits2 (n := d) _ (HL.out _ (And.left ‹_›)) d2').mono ?_; rintro e w2 ⟨rfl, hb⟩)))
  go_wp2
  go_ret
  exact ⟨by rw [← T.out]; rfl, (And.left ‹Below w.heap.size w _ ∧ _›)⟩
theorem text_yes {y m d : Int} (w : World) (hw : Lw w) (h : vldB y m d = true) :
    Calls Tryd.prog 15 #[.agg #[.int .i64 y, .int .i64 m, .int .i64 d]] w fun e w' => e = .returned (.string (st (txt y m d))) ∧ Below w.heap.size w w' := by
  obtain ⟨h1, h2, h3, h4, h5, h6⟩ := vld_of h
  obtain ⟨y, rfl⟩ := Int.eq_ofNat_of_zero_le (show 0 ≤ y by omega)
  obtain ⟨m, rfl⟩ := Int.eq_ofNat_of_zero_le (show 0 ≤ m by omega)
  obtain ⟨d, rfl⟩ := Int.eq_ofNat_of_zero_le (show 0 ≤ d by omega)
  exact text_nat y m d w hw h
theorem text_no {y m d : Int} (w : World) (hw : Lens w) (hs : 0 < w.heap.size) (h : vldB y m d = false) :
    Calls Tryd.prog 15 #[.agg #[.int .i64 y, .int .i64 m, .int .i64 d]] w fun e w' => e = .returned (.string ⟨#[]⟩) ∧ Below w.heap.size w w' := by
  have HL := Lib.hid (fun W (h : Below (w.heap.size) w W) => hw.below h hs)
  have H := Lib.hid h; clear h hw
  go_enter Tryd.func15, Tryd.ntmps15
  go_wp2_with fail
  refine (valid_not _ (HL.out _ ((Below.refl _ _).alloc (Nat.le_refl _) _)) (by simp) H.out).mono ?_
  rintro e w1 ⟨rfl, hb⟩
  go_wp2_with fail
  go_ret
  exact ⟨rfl, ((Below.refl _ _).alloc (Nat.le_refl _) _).trans (hb.mono (by simp))⟩

set_option maxHeartbeats 1000000 in
theorem number_any (l : List UInt8) (w : World) (hw : Lw w) (h : l.length ≤ 4) :
    Calls Tryd.prog 36 #[.string (st l)] w fun e w' => e = .returned (.int .i64 (numOf l)) ∧ Below w.heap.size w w' := by
  have hsz : (st l).size ≤ 18 := by rw [st_size]; omega
  have hb := numOf_bd h
  cases ha : Lib.atoi l with
  | some v =>
    have c1 := Any.strconv_Atoi Tryd.lays172 (st l) v hsz (by rw [st_list]; exact ha) w
    change Calls Tryd.prog 39 _ _ _ at c1
    have C := Lib.hid c1; clear c1
    have E := Lib.hid (show numOf l = v by unfold numOf; rw [ha]; rfl)
    rw [E.out] at hb
    clear ha hw hsz
    go_enter Tryd.func36, Tryd.ntmps36
    go_wp2_with fail
    refine C.out.mono ?_
    rintro e w1 ⟨rfl, t, hw1⟩
    have B := Lib.hid (hw1 ▸ Lib.bytesWorld_below _ _ _ : Below w.heap.size w w1); clear hw1
    go_wp2_with fail
    go_ret
    exact ⟨ret_int E.out.symm, B.out⟩
  | none =>
    obtain ⟨ev, e1, e2⟩ := hw.syn
    have c1 := Any.strconv_Atoi_err Tryd.lays172c (st l) hsz (by rw [st_list]; exact ha) ev w e1 e2
    change Calls Tryd.prog 39 _ _ _ at c1
    have C := Lib.hid c1; clear c1
    have E := Lib.hid (show numOf l = 0 by unfold numOf; rw [ha]; rfl)
    clear ha hw hsz e1 e2
    go_enter Tryd.func36, Tryd.ntmps36
    go_wp2_with fail
    refine C.out.mono ?_
    rintro e w1 ⟨N, rfl, h1, h2, h3⟩
    have B := Lib.hid h3; clear h1 h2 h3
    go_wp2_with fail
    go_ret
    exact ⟨ret_int E.out.symm, B.out⟩
end Go.Proofs.YtlfkafcmdndlgaaDoor.Ci
