import Derived.Test.YtpnnakjffcohoaaA4
import Derived.Laws.BytesArg
import Derived.Laws.Strings
import Derived.Lib.SlBytesConst
namespace Go.Proofs.Ytpnnakjffcohoaa
set_option linter.unusedVariables false
set_option linter.unusedSimpArgs false
open Go.RowKit Mem Go.ChangeMaps

/-- The string of bytes. -/
def str (l : List UInt8) : ByteArray := ⟨l.toArray⟩
theorem str_inj {a b : List UInt8} (h : str a = str b) : a = b := by
  have := congrArg (fun x : ByteArray => x.data.toList) h
  simpa [str] using this
theorem run_str_rd (w : World) {B : Nat} {A : Option Addr} {c : Nat} {l : List UInt8} (h : Rd w B A c l) : (convert 42 9 (.slice A l.length c)).run Try.prog w = .ok (.string (str l)) w := by
  by_cases h0 : 0 < l.length
  · obtain ⟨b, o, rfl, _, hc⟩ := h.2.2.2 h0
    rw [run_convert_bytes_arg (P := Try.prog) w 42 5 Try.underlying42 Try.underlying5 b o l.length c (l.map fun x => (x.toNat : Int)) (by simp) (fun i hi => by rw [hc i hi]; simp [List.getD, hi]) 9 Try.underlying9]
    congr 2
    apply ByteArray.ext
    apply Array.toList_inj.1
    simp [strOfNums, str, Function.comp_def]
  · have : l = [] := List.eq_nil_of_length_eq_zero (by omega)
    subst this
    rcases A with _ | ad
    · exact run_convert_bytes_nil (P := Try.prog) w 42 5 Try.underlying42 Try.underlying5 _ _ 9 Try.underlying9
    · rw [run_convert_bytes_string w 42 9 5 (some ad) _ c Try.underlying42 Try.underlying5 Try.underlying9, run_bytesToString w ad _ c [] (by simp [loadCells, loadCellsFrom])]
      rfl
theorem run_str_own (w : World) {base : Nat} {v : Value} {l : List UInt8} (h : Own 5 w base v l) : (convert 42 9 v).run Try.prog w = .ok (.string (str l)) w := by
  obtain ⟨A, c, rfl, hr, _⟩ := h.form
  exact run_str_rd w hr
theorem own_drewN {w : World} {base : Nat} {v : Value} {l : List UInt8} (h : Own 5 w base v l) (n : Nat) : Own 5 (w.drewN n) base v l :=
  Own.of_block h fun k _ => by rw [show (w.drewN n).heap = w.heap from (World.drewN_alike w n).1]

variable {F G : Nat → Prop}

set_option maxHeartbeats 1000000 in
theorem same_any (w : World) (v v' : Value) (n : Nat) (p p' : Nat → List UInt8) (h : Pages w F v n p) (h' : Pages w G v' n p') (he : ∀ i, i < n → p i = p' i) (hn : n < 5000) :
    Calls Try.prog 24 #[v, v'] w fun e w' => e = .returned (.bool true) ∧ Below w.heap.size w w' := by
  obtain ⟨A, c, rfl, h1⟩ := h.form
  obtain ⟨A', c', rfl, h1'⟩ := h'.form
  have H1 := Lib.hid h1
  have H1' := Lib.hid h1'
  have HE := Lib.hid he
  clear h h' h1 h1' he
  go_enter Try.func24, Try.ntmps24
  go_wp2_with fail
  go_loopw [5] (fun v wr => ∃ k : Nat, k ≤ n ∧ v = .int .i64 k ∧ ∃ q, wr = w.drewN q) (fun v _ => n - (intOf v).toNat)
  case atStart => exact ⟨0, Nat.zero_le _, rfl, 0, rfl⟩
  case round =>
    obtain ⟨k, hk, rfl, q, rfl⟩ := hrel
    by_cases hlt : k < n
    · obtain ⟨g, rfl, h2⟩ := H1.out (by omega)
      obtain ⟨g', rfl, h2'⟩ := H1'.out (by omega)
      obtain ⟨b, cb, hc, ho⟩ := h2 k hlt
      obtain ⟨b', cb', hc', ho'⟩ := h2' k hlt
      have x1 := (drewN_cell w q _).trans hc
      have x2 := (drewN_cell w q _).trans hc'
      have r1 : ∀ j, (convert 42 9 (.slice (some ⟨b, 0, none⟩) 4096 cb)).run Try.prog ((w.drewN q).drewN j) = .ok (.string (str (p k))) ((w.drewN q).drewN j) := fun j => run_str_own _ (own_drewN (own_drewN ho q) j)
      have r2 : ∀ j, (convert 42 9 (.slice (some ⟨b', 0, none⟩) 4096 cb')).run Try.prog ((w.drewN q).drewN j) = .ok (.string (str (p k))) ((w.drewN q).drewN j) := fun j => by rw [HE.out k hlt]; exact run_str_own _ (own_drewN (own_drewN ho' q) j)
      have HQ := Lib.hid (show ∀ j, (w.drewN q).drewN j = w.drewN (q + j) from fun j => World.drewN_drewN w q j)
      generalize str (p k) = st at r1 r2
      clear h2 h2' hc hc' ho ho'
      generalize hW : w.drewN q = V at x1 x2 r1 r2 HQ
      have HW := Lib.hid hW
      clear hW
      have hki : (k : Int) < (n : Int) := by omega
      go_wp2_with fail
      go_quiet (fail)
      go_wp2_with fail
      go_roundw
      case rel => exact ⟨k + 1, by omega, by go_num, _, HQ.out _⟩
      case measure => simp [intOf]; omega
    · obtain rfl : k = n := by omega
      go_wp2_with fail
      go_ret
      exact ⟨rfl, below_drewN (Below.refl _ w) q⟩
end Go.Proofs.Ytpnnakjffcohoaa
