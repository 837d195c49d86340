import Derived.Test.YtcjokkjepgfinaaGreatDoorJM
namespace Go.Proofs.YtcjokkjepgfinaaGreatDoor.Tr
set_option maxRecDepth 8000
set_option linter.unusedVariables false
set_option linter.unusedSimpArgs false
open Go.RowKit Mem Sk
open Dk (Fr ptr newD newY)
def zrow (n : Nat) : By := List.replicate n 0
theorem zrow_len (n : Nat) : (zrow n).length = n := List.length_replicate
theorem makeZ (n : Nat) (hn : n ≤ 1000) : ∀ W, (Instr.makeSlice 32 (.int .i64 (n : Int)) (.int .i64 (n : Int))).run Tryz.prog W = .ok (.slice (some ⟨W.heap.size, 0, none⟩) n n) (W.alloc (.cells (bcs (zrow n)) 5)) := by
  intro W
  obtain ⟨i0, hi, hz0, hz1, hz2⟩ := info_parts u8_info
  have hr := run_make (P := Tryz.prog) W 32 5 i0 _ Tryz.underlying32 hi hz0 .i64 .i64 (n : Int) (n : Int) (by omega) (by omega) (by rw [hz2]; omega) (by omega)
  rw [hz1] at hr
  refine hr.trans ?_
  unfold zrow
  rw [← bcs_zeros, show (Value.int .u8 0).cells = #[Value.int .u8 0] from rfl]
  simp
theorem lit2 (n : Nat) (hn : n < 65536) : #[Value.int .u8 ((n : Int) / 256), Value.int .u8 ((n : Int) % 256)] = bcs [UInt8.ofNat (n / 256), UInt8.ofNat n] := by
  have e1 : ((UInt8.ofNat (n / 256)).toNat : Int) = (n : Int) / 256 := by rw [UInt8.toNat_ofNat']; omega
  have e2 : ((UInt8.ofNat n).toNat : Int) = (n : Int) % 256 := by rw [UInt8.toNat_ofNat']; omega
  simp only [bcs, List.map_cons, List.map_nil, bv, e1, e2]
set_option maxHeartbeats 1000000 in
theorem key_any (n long : Nat) (w : World) (hn : n < 65536) (hl : long < 256) :
    Calls Tryz.prog 25 #[.int .u16 (n : Int), .int .u8 (long : Int)] w fun e w' => ∃ v, e = .returned v ∧ Mem.Own 5 w' w.heap.size v (keyB long n) ∧ Below w.heap.size w w' := by
  have hmk := makeZ (long % 200) (by omega)
  have e1 : ((long : Int)).tmod 200 = ((long % 200 : Nat) : Int) := by rw [Int.tmod_eq_emod_of_nonneg (by omega)]; omega
  have hz : (zrow (long % 200)).length = long % 200 := zrow_len _
  obtain ⟨L, hL⟩ : ∃ L, long % 200 = L := ⟨_, rfl⟩
  have HK := Lib.hid (show keyB long n = zrow (long % 200) ++ [UInt8.ofNat (n / 256), UInt8.ofNat n] from rfl)
  rw [hL] at hmk e1 hz HK
  have hL2 : L < 200 := by omega
  have hO0 := Mem.Own.lit 5 w (zrow L) w.heap.size (Nat.le_refl _) (by rw [hz]; unfold maxLen; omega)
  rw [hz] at hO0
  have hO : Hid (Mem.Own 5 ((w.alloc (.cells (bcs (zrow L)) 5)).alloc (.cells #[.int .u8 ((n : Int) / 256), .int .u8 ((n : Int) % 256)] 5)) w.heap.size (.slice (some ⟨w.heap.size, 0, none⟩) L L) (zrow L)) :=
    Lib.hid (hO0.below (B := (w.alloc (.cells (bcs (zrow L)) 5)).heap.size) ((Below.refl _ _).alloc (Nat.le_refl _) _) (Nat.le_refl _))
  have hR : Hid (Rd ((w.alloc (.cells (bcs (zrow L)) 5)).alloc (.cells #[.int .u8 ((n : Int) / 256), .int .u8 ((n : Int) % 256)] 5)) (w.heap.size + 1 + 1) (some ⟨w.heap.size + 1, 0, none⟩) 2 [UInt8.ofNat (n / 256), UInt8.ofNat n]) := by
    rw [lit2 n hn]
    have := Rd.lit (w.alloc (.cells (bcs (zrow L)) 5)) [UInt8.ofNat (n / 256), UInt8.ofNat n] 5 (w.heap.size + 1 + 1) (by simp) (by unfold maxLen; simp)
    rw [World.size_alloc] at this
    exact Lib.hid this
  have hLn := Lib.hid (show (zrow L).length + [UInt8.ofNat (n / 256), UInt8.ofNat n].length ≤ 140737488355328 by rw [hz]; simp; omega)
  have hb1 : Hid (Below w.heap.size w ((w.alloc (.cells (bcs (zrow L)) 5)).alloc (.cells #[.int .u8 ((n : Int) / 256), .int .u8 ((n : Int) % 256)] 5))) := Lib.hid (((Below.refl _ _).alloc (Nat.le_refl _) _).alloc (by simp) _)
  clear hO0 hz
  go_enter Tryz.func25, Tryz.ntmps25
  go_wp2_with (at_builtin; refine wpList_append_rd byteTy rfl _ _ rfl w.heap.size _ (zrow L) rfl hO.out (w.heap.size + 1 + 1) _ _ 2 [UInt8.ofNat (n / 256), UInt8.ofNat n] rfl rfl hR.out hLn.out (by simp; omega) ?_; intro v2 w2 hown2 hg2 hat2)
  have hb2 := hb1.out.grown hg2 (by simp; omega) (fun k hk => by cases hk; exact Nat.le_refl _)
  rw [← HK.out] at hown2
  go_ret
  exact ⟨v2, rfl, hown2, hb2⟩
section
variable {B : Nat} {W w w' wk : World} {sb db tb tdb : Nat} {yd zd : Dk.Lay} {L M : List It} {m n lg : Nat}
theorem keyF_any (n lg : Nat) (w : World) (hn : n < 65536) (hl : lg < 256) :
    Calls Tryz.prog 25 #[.int .u16 (n : Int), .int .u8 (lg : Int)] w fun e w' => ∃ A' c', e = .returned (.slice A' (keyB lg n).length c') ∧ RdF w' (fun q => q < w.heap.size) (.slice A' (keyB lg n).length c') (keyB lg n) ∧ Below w.heap.size w w' := by
  refine (key_any n lg w hn hl).mono ?_
  rintro e w' ⟨v, rfl, ho, hb⟩
  have r := RdF.own (F := fun q => q < w.heap.size) ho (fun k h => h)
  obtain ⟨A', c', rfl⟩ := r.form
  exact ⟨A', c', rfl, r, hb⟩
theorem keyB_bd (lg n : Nat) : 1 ≤ (keyB lg n).length ∧ (keyB lg n).length ≤ 256 := by rw [keyB_len]; omega
theorem Duo.put1 {A' : Option Addr} {c' : Nat} (h : Duo B W w sb db yd tb tdb zd L M m) (hb : Below w.heap.size w wk) (k1 : RdF wk (fun q => q < w.heap.size) (.slice A' (keyB lg n).length c') (keyB lg n)) (hm : m < 70000000) (hL : L.length ≤ 120) :
    Calls Tryz.prog 11 #[pt sb, .slice A' (keyB lg n).length c', .slice (some ⟨wk.heap.size, 0, none⟩) 1 1] (wk.alloc (.cells #[.int .u8 1] 5)) fun e w2 => e = .returned (.int .i64 0) ∧ Duo B W w2 sb db yd tb tdb zd (putK L (keyB lg n) [1]) M (m + 3000) := by
  have b2 : Below wk.heap.size wk (wk.alloc (.cells (bcs [1]) 5)) := (Below.refl _ _).alloc (Nat.le_refl _) _
  exact Duo.Put (val := [1]) h (hb.trans (b2.mono hb.size)) (k1.bel b2) (rdf_lit wk [1] 5 (0, 0) (by unfold maxLen; simp) (by have := hb.size; omega)) (keyB_bd lg n).1 (keyB_bd lg n).2 (by simp) hm hL
theorem Duo.RangeAll (h : Duo B W w sb db yd tb tdb zd L M m) (hL : L.length ≤ 120) :
    Calls Tryz.prog 17 #[pt sb, .slice none 0 0, .slice none 0 0] w fun e w' => ∃ A c, e = .returned (.tuple #[.slice A L.length c, .int .i64 0]) ∧ PrAt w' A c L ∧ Below w.heap.size w w' := by
  have C := Duo.Range (fr := []) (tu := []) h (RdF.nil w fun _ => False) (RdF.nil w fun _ => False) hL
  have e : (L.filter fun x => inS [] [] x.1) = L := by
    rw [List.filter_eq_self]; intro x _; exact inS_all x.1
  rw [e] at C
  exact C
end
end Go.Proofs.YtcjokkjepgfinaaGreatDoor.Tr
