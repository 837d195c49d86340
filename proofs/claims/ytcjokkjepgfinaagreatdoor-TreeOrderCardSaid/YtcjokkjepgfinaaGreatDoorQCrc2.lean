import Derived.Test.YtcjokkjepgfinaaGreatDoorQCrc1
set_option linter.unusedVariables false
set_option linter.unusedSimpArgs false
namespace Go.Proofs.YtcjokkjepgfinaaGreatDoor
open Go.RowKit Mem
def Pts (w : World) (B : Nat) (A : Option Addr) (c : Nat) (ps : List Part) : Prop :=
  ps.length ≤ c ∧ c ≤ maxLen ∧ (A = none → c = 0) ∧ (0 < ps.length → ∃ b o, A = some ⟨b, o, none⟩ ∧ b < B ∧ ∀ i (h : i < ps.length), w.cell? ⟨b, o + i, none⟩ = some (.slice ps[i].A ps[i].l.length ps[i].c) ∧ Rd w B ps[i].A ps[i].c ps[i].l)
theorem Pts.nil (w : World) (B : Nat) : Pts w B none 0 [] := ⟨by simp, by unfold maxLen; omega, fun _ => rfl, fun h => by simp at h⟩
theorem Pts.below {w w' : World} {B : Nat} {A : Option Addr} {c : Nat} {ps : List Part} (h : Pts w B A c ps) (hb : Below B w w') : Pts w' B A c ps :=
  ⟨h.1, h.2.1, h.2.2.1, fun hn => by
    obtain ⟨b, o, e, hB, hc⟩ := h.2.2.2 hn
    exact ⟨b, o, e, hB, fun i hi => ⟨(hb.cell (p := ⟨b, o + i, none⟩) hB).trans (hc i hi).1, (hc i hi).2.below hb⟩⟩⟩
theorem Pts.more {w : World} {B B' : Nat} {A : Option Addr} {c : Nat} {ps : List Part} (h : Pts w B A c ps) (hB : B ≤ B') : Pts w B' A c ps :=
  ⟨h.1, h.2.1, h.2.2.1, fun hn => by
    obtain ⟨b, o, e, hb, hc⟩ := h.2.2.2 hn
    exact ⟨b, o, e, by omega, fun i hi => ⟨(hc i hi).1, (hc i hi).2.more hB⟩⟩⟩
theorem Pts.new (w : World) (ps : List Part) (t : TypeId) (n : Nat) (cs : Array Value) (hn : n = ps.length) (hc : cs = (ps.map Part.v).toArray) (hl : ps.length ≤ 1000) (hp : ∀ p, p ∈ ps → Rd w w.heap.size p.A p.c p.l) :
    Pts (w.alloc (.cells cs t)) (w.heap.size + 1) (some ⟨w.heap.size, 0, none⟩) n ps := by
  subst hn; subst hc
  refine ⟨Nat.le_refl _, by unfold maxLen; omega, fun e => (by cases e), fun _ => ⟨w.heap.size, 0, rfl, by omega, fun i hi => ⟨?_, ((hp _ (List.getElem_mem hi)).alloc (Nat.le_refl _) _).more (by omega)⟩⟩⟩
  rw [cell_of_row _ _ _ _ _ _ (heap_alloc_new w _), Nat.zero_add]
  simp [hi, Part.v]
set_option maxHeartbeats 400000 in
theorem Check_any (A : Option Addr) (c : Nat) (ps : List Part) (w : World) (hw : Tab w) (hp : Pts w w.heap.size A c ps) :
    Calls Tryz.prog 141 #[.slice A ps.length c] w fun e w' => e = .returned (.int .u32 ((Crc.check (flat ps) : Nat) : Int)) ∧ w = w' := by
  have hlen : ps.length ≤ maxLen := Nat.le_trans hp.1 hp.2.1
  unfold maxLen at hlen
  have hend : bits .xor .u32 ((Crc.thru 4294967295 (flat ps) : Nat) : Int) 4294967295 = ((Crc.check (flat ps) : Nat) : Int) :=
    u32_xor_nat _ 4294967295 (Crc.thru_lt _ _ (by decide)) (by decide)
  have HE := Lib.hid hend
  clear hend
  go_enter Tryz.func141, Tryz.ntmps141
  go_wp2_with fail
  go_loop [3, 8] (fun v i => ∃ k : Nat, k ≤ ps.length ∧ i = .int .i64 k ∧ v = .int .u32 ((Crc.thru 4294967295 (flat (ps.take k)) : Nat) : Int)) (fun _ i => ps.length - (intOf i).toNat)
  case atStart => exact ⟨0, Nat.zero_le _, rfl, by simp [Crc.thru, flat]⟩
  case round =>
    obtain ⟨k, hk, rfl, rfl⟩ := hrel
    by_cases hlt : k < ps.length
    · obtain ⟨b, o, rfl, _, hc⟩ := hp.2.2.2 (by omega)
      obtain ⟨hcell, hr⟩ := hc k hlt
      clear hc
      have hm := Crc.thru_lt 4294967295 (flat (ps.take k)) (by decide)
      have H := Lib.hid (flat_take ps k hlt)
      have HR := Lib.hid hr
      clear hr
      go_wp2_with (go_at_call 175; refine (through_any _ _ _ _ _ hw HR.out hm).mono ?_; rintro e w1 ⟨rfl, rfl⟩)
      go_round
      case rel => exact ⟨k + 1, by omega, by go_num, by rw [H.out, Crc.thru_app]⟩
      case measure => simp [intOf]; omega
    · obtain rfl : k = ps.length := by omega
      rw [List.take_length]
      go_wp2_with fail
      go_ret
      exact ⟨by rw [HE.out]; rfl, rfl⟩
def pl (n : Nat) : List UInt8 := [UInt8.ofNat n, UInt8.ofNat (n / 256), UInt8.ofNat (n / 65536), UInt8.ofNat (n / 16777216)]
theorem bcs_pl (n : Nat) (h : n < 4294967296) : #[Value.int .u8 ((n : Int) % 256), .int .u8 ((n : Int) / 256 % 256), .int .u8 ((n : Int) / 65536 % 256), .int .u8 ((n : Int) / 16777216)] = bcs (pl n) := by
  simp only [bcs, pl, bv, List.map, UInt8.toNat_ofNat']
  rw [show (n : Int) / 16777216 = (n : Int) / 16777216 % 256 by omega]
  rfl
end Go.Proofs.YtcjokkjepgfinaaGreatDoor
