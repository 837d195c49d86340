import Derived.Test.YtpnnakjffcohoaaR6
namespace Go.Proofs.Ytpnnakjffcohoaa
set_option linter.unusedVariables false
set_option linter.unusedSimpArgs false
open Go.RowKit Mem Go.ChangeMaps
variable {w : World} {rb : Nat} {lv sv : Value} {r : Rfd}

def Rfd.ansF (r : Rfd) : Int := if r.dead then 9 else if r.cnt then 0 else 9
def Rfd.doF (r : Rfd) : Rfd := if r.dead then r else if r.cnt then r.counted.ended [] 255 else r.counted
def Rfd.doR (r : Rfd) (fs : List Int) : Rfd := { r.ended fs 0 with left := -1, dead := false }

theorem counted_since (r : Rfd) : r.counted.since = r.since := by
  unfold Rfd.counted
  split
  · rfl
  · split <;> rfl

theorem rflush_any (h : IsR w rb lv sv r) (hs : r.since.length ≤ 1000000) :
    Calls Try.prog 31 #[ptr rb] w fun e w' => e = .returned (.int .i64 r.ansF) ∧ ∃ sv', IsR w' rb lv sv' r.doF ∧ Kr w (rfoot rb lv sv) w' (rfoot rb lv sv') := by
  have c3 := h.c3
  have H := Lib.hid h
  have HS := Lib.hid hs
  clear h hs
  by_cases hd : r.dead = true
  · have e1 : r.ansF = 9 := if_pos hd
    have e2 : r.doF = r := if_pos hd
    rw [e1, e2]
    rw [hd] at c3
    clear e1 e2 hd
    go_enter Try.func31, Try.ntmps31
    go_wp2
    go_ret
    exact ⟨rfl, sv, H.out, Kr.refl _ _⟩
  · have hd' : r.dead = false := by simpa using hd
    rw [hd'] at c3
    have CN := Lib.hid (counts_any H.out)
    by_cases hc : r.cnt = true
    · have e1 : r.ansF = 0 := by unfold Rfd.ansF; rw [hd', hc]; rfl
      have e2 : r.doF = r.counted.ended [] 255 := by unfold Rfd.doF; rw [hd', hc]; rfl
      rw [e1, e2]
      rw [hc] at CN
      clear e1 e2 hd hd' hc
      go_enter Try.func31, Try.ntmps31
      go_wp2_with (first | (go_at_call 45; refine CN.out.mono ?_; rintro e w4 ⟨rfl, x4, k4⟩; have X4 := Lib.hid x4; have K4 := Lib.hid k4; clear x4 k4) | (go_at_call 46; refine (rend_any X4.out (by rw [counted_since]; exact HS.out) none 0 0 [] 255 (RdI.nil _ _) rfl (fun hh => by simp at hh)).mono ?_; rintro e w5 ⟨rfl, x5, k5⟩; have X5 := Lib.hid x5; have K5 := Lib.hid (K4.out.trans k5); clear x5 k5))
      go_ret
      exact ⟨rfl, _, X5.out, K5.out⟩
    · have hc' : r.cnt = false := by simpa using hc
      have e1 : r.ansF = 9 := by unfold Rfd.ansF; rw [hd', hc']; rfl
      have e2 : r.doF = r.counted := by unfold Rfd.doF; rw [hd', hc']; rfl
      rw [e1, e2]
      rw [hc'] at CN
      clear e1 e2 hd hd' hc hc'
      go_enter Try.func31, Try.ntmps31
      go_wp2_with (go_at_call 45; refine CN.out.mono ?_; rintro e w4 ⟨rfl, x4, k4⟩; have X4 := Lib.hid x4; have K4 := Lib.hid k4; clear x4 k4)
      go_ret
      exact ⟨rfl, _, X4.out, K4.out⟩

theorem rrestart_any (h : IsR w rb lv sv r) (hs : r.since.length ≤ 1000000) (A : Option Addr) (n c : Nat) (fs : List Int) (hr : RdI w w.heap.size A c fs) (hn : fs.length = n) (hA : 0 < fs.length → ∀ a, A = some a → ¬ rfoot rb lv sv a.block) :
    Calls Try.prog 33 #[ptr rb, .slice A n c] w fun e w' => e = .returned (.tuple #[]) ∧ IsR w' rb lv (.slice none 0 0) (r.doR fs) ∧ Kr w (rfoot rb lv sv) w' (rfoot rb lv (.slice none 0 0)) := by
  have CE := Lib.hid (rend_any h hs A n c fs 0 hr hn hA)
  clear h hs hr hn hA
  go_enter Try.func33, Try.ntmps33
  go_wp2_with (go_at_call 46; refine CE.out.mono ?_; rintro e w5 ⟨rfl, x5, k5⟩; have c2 := x5.c2; have c3 := x5.c3; have f2 := x5.row.frozen 2; have f3 := x5.row.frozen 3; have X5 := Lib.hid x5; have K5 := Lib.hid k5; clear x5 k5)
  have X6 := Lib.hid (X5.out.set 3 (.bool false) { r.ended fs 0 with dead := false } (fun j hj => by match j, hj with | 0, _ | 1, _ | 2, _ | 3, _ => rfl) rfl rfl rfl ⟨X5.out.l0, X5.out.l1⟩)
  have X7 := Lib.hid (X6.out.set 2 (.int .i64 (-1)) (r.doR fs) (fun j hj => by match j, hj with | 0, _ | 1, _ | 2, _ | 3, _ => rfl) rfl rfl rfl ⟨by show (-9223372036854775808 : Int) ≤ -1; omega, by show (-1 : Int) < 9223372036854775808; omega⟩)
  go_end0
  exact ⟨rfl, X7.out, K5.out.trans ((Kr.same (Fr.setCell _ _ (fun _ => .inl rfl) _) : Kr _ (rfoot rb lv (.slice none 0 0)) _ _).trans (Kr.same (Fr.setCell _ _ (fun _ => .inl rfl) _)))⟩

/-- The law's kill. -/
def Rfd.killed (r : Rfd) : Rfd := { r with dead := true }
theorem IsR.kill (h : IsR w rb lv sv r) : IsR (w.setCell ⟨rb, 3, none⟩ (.bool true)) rb lv sv r.killed ∧ Kr w (rfoot rb lv sv) (w.setCell ⟨rb, 3, none⟩ (.bool true)) (rfoot rb lv sv) :=
  ⟨h.set 3 (.bool true) r.killed (fun j hj => by match j, hj with | 0, _ | 1, _ | 2, _ | 3, _ => rfl) rfl rfl rfl ⟨h.l0, h.l1⟩, Kr.same (Fr.setCell _ _ (fun _ => .inl rfl) _)⟩
end Go.Proofs.Ytpnnakjffcohoaa
