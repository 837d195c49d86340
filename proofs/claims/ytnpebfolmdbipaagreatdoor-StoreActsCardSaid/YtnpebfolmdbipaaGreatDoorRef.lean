import Derived.Test.YtnpebfolmdbipaaGreatDoorStr
import Derived.Deep.RegionHeld3
import Derived.LoopTactic
namespace Go.Proofs.YtnpebfolmdbipaaGreatDoor.Ref
set_option linter.unusedVariables false
set_option linter.unusedSimpArgs false
open Go.RowKit Mem

theorem be_take (n v k : Nat) (hk : k < n) : (be n v).take (k + 1) = (be n v).take k ++ [UInt8.ofNat (v / 256 ^ (n - 1 - k))] := by
  induction n generalizing k with
  | zero => omega
  | succ n ih =>
    cases k with
    | zero => simp [be]
    | succ k =>
      simp only [be, List.take_succ_cons, List.cons_append]
      rw [ih k (by omega), show n + 1 - 1 - (k + 1) = n - 1 - k by omega]

theorem str_append (p q : List UInt8) : str p ++ str q = str (p ++ q) := by
  apply ByteArray.ext
  apply Array.toList_inj.1
  simp [str, ByteArray.data_append]
theorem str_size (p : List UInt8) : (str p).size = p.length := by
  show p.toArray.size = p.length
  simp
theorem str_add (W : World) (p q : List UInt8) (h : p.length + q.length ≤ 9223372036854775807) : (Op.stringOp .add (str p) (str q)).run Tryz.prog W = .ok (.string (str (p ++ q))) W := by
  have e1 : (str p).size = p.length := str_size p
  have e2 : (str q).size = q.length := str_size q
  unfold Op.stringOp
  simp only [e1, e2]
  rw [if_neg (by simp [IntKind.max, IntKind.bits, IntKind.signed]; omega), str_append]
  rfl

/-- What holds in the middle of a region may be more than what held at its beginning. -/
theorem wpAnyH_more {P : Program} {md : Region.Mode} {ops : Array Oper} {Q : Exit → Act → World → Prop} {S S' : World → Prop} (h : ∀ w, S' w → S w) :
    ∀ (fuel : Nat) (listed : Array Bool) (a : Act) (w : World), wpAnyH P md ops Q S' fuel listed a w → wpAnyH P md ops Q S fuel listed a w
  | 0, _, _, _, h0 => h0
  | fuel + 1, _, _, _, h0 => ⟨h0.1, fun i hi => wpOp_mono (fun a' w' h' => ⟨h _ h'.1, wpAnyH_more h fuel _ a' w' h'.2⟩) (h0.2 i hi)⟩
/-- A string becomes bytes. -/
theorem to_bytes (l : List UInt8) (W : World) (n : Nat) (hn : l.length = n) (hl : n ≤ 100000) : ∃ c W', (convert 9 36 (.string (str l))).run Tryz.prog W = .ok (.slice (some ⟨W.heap.size, 0, none⟩) n c) W' ∧ Rd W' W'.heap.size (some ⟨W.heap.size, 0, none⟩) c l ∧ Below W.heap.size W W' := by
  subst hn
  have h := run_bytes_of_string (P := Tryz.prog) W 9 36 5 (str l) Tryz.underlying9 Tryz.underlying36 Tryz.underlying5
  rw [str_size] at h
  refine ⟨_, _, h, ⟨grownCap_ge _ _ _ _, grownCap_le_maxLen _ _ _ _ (by unfold maxLen; omega), fun e => (by cases e), fun _ => ⟨W.heap.size, 0, rfl, by rw [size_alloc']; show W.heap.size < W.heap.size + 1; omega, fun i hi => ?_⟩⟩, ((Below.refl _ W).drew).alloc (Nat.le_refl _) _⟩
  show (W.drew.alloc _).cell? ⟨W.drew.heap.size, 0 + i, none⟩ = _
  rw [cell_of_row _ _ _ _ _ _ (heap_alloc_new W.drew _), Nat.zero_add]
  unfold bytesRow
  rw [Array.getElem?_append_left (by simp [str]; exact hi)]
  simp [str, hi, bv]

end Go.Proofs.YtnpebfolmdbipaaGreatDoor.Ref
