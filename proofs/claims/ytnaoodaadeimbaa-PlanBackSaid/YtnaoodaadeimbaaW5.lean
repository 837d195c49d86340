import Derived.Test.YtnaoodaadeimbaaW4
namespace Go.Proofs.Ytnaoodaadeimbaa
open Go.RowKit Mem
/-- What a method leaves: the reader at g is as s says; of what was there block g alone has turned. -/
def Left (w w' : World) (g : Nat) (s : St) : Prop := RdrS w' g s ∧ w.grownBy w' (some g)
theorem after_ok (l : List UInt8) (n : Nat) (h : ¬ l.length < n) : (⟨l, false⟩ : St).after n = ⟨l.drop n, false⟩ := by
  unfold St.after; rw [if_neg (by simp), if_neg h]
theorem Left.set1 {w : World} {g : Nat} {l : List UInt8} {b : Bool} (h : Rdr w g l b) : Left w (w.setCell ⟨g, 1, none⟩ (.bool true)) g ⟨l, true⟩ := ⟨h.set1 true, only_set g 1 _⟩

theorem RInt_nil (w : World) : Calls Try.prog 29 #[.pointer none] w fun e w' => e = .returned (.int .i64 0) ∧ w = w' := by
  have hmf : ∀ (fn : Fn) (first cap : Array Value) (w : World), (Instr.makeFunc fn first cap).run Try.prog w = .ok (.func fn first cap) w := fun _ _ _ _ => rfl
  go_enter Try.func29, Try.ntmps29
  go_wp2_with (go_at_call 40; refine (take_i64_nil _ _ _).mono ?_; rintro e w1 ⟨rfl, rfl⟩)
  go_ret
  exact ⟨rfl, rfl⟩
theorem RInt_any (g : Nat) (s : St) (w : World) (h : RdrS w g s) :
    Calls Try.prog 29 #[.pointer (some ⟨g, 0, none⟩)] w fun e w' => e = .returned (.int .i64 (wrap64 (s.num 8 : Int))) ∧ Left w w' g (s.after 8) := by
  have hmf : ∀ (fn : Fn) (first cap : Array Value) (w : World), (Instr.makeFunc fn first cap).run Try.prog w = .ok (.func fn first cap) w := fun _ _ _ _ => rfl
  have hc : Calls Try.prog 40 #[.pointer (some ⟨g, 0, none⟩), .int .u64 8, .func (Fn.func 41) #[] #[]] w fun e w' => ∃ v, e = .returned v ∧ v = .int .i64 (wrap64 (s.num 8 : Int)) ∧ Left w w' g (s.after 8) := by
    obtain ⟨l, b⟩ := s
    cases b
    · by_cases hn : l.length < 8
      · refine (take_i64_short g 8 _ l w h (by omega)).mono ?_
        rintro e w1 ⟨rfl, rfl⟩
        exact ⟨_, rfl, by simp [St.num, hn, wrap64], by simpa [St.after, hn] using Left.set1 h⟩
      · refine take_i64_ok g 8 41 #[] l w _ enter42 h (by omega) ?_
        intro A c w1 h1 hg hsz hr hs
        refine (calls42 _ _ _ _ w1 (hr.more (by have := h1.lt; omega)) (by rw [List.length_take]; omega) (by omega)).mono ?_
        rintro e w' ⟨rfl, rfl⟩
        exact ⟨_, rfl, by simp [St.num, hn], by rw [after_ok _ _ hn]; exact ⟨h1, hg⟩⟩
    · refine (take_i64_bad g 8 _ l w h).mono ?_
      rintro e w1 ⟨rfl, rfl⟩
      exact ⟨_, rfl, by simp [St.num, wrap64], h, grownBy_refl _ _⟩
  have HC := Lib.hid hc
  clear hc h
  go_enter Try.func29, Try.ntmps29
  go_wp2_with (go_at_call 40; refine HC.out.mono ?_; rintro e w1 ⟨v1, rfl, rfl, hl⟩)
  go_ret
  exact ⟨rfl, hl⟩

/-- What Text answers, and leaves. -/
theorem after_le (s : St) (n : Nat) : (s.after n).l.length ≤ s.l.length := by
  unfold St.after; split
  · exact Nat.le_refl _
  · split <;> simp
theorem _root_.Go.Proofs.Ytnaoodaadeimbaa.Mem.Own.mono {e : TypeId} {w : World} {b b' : Nat} {v : Value} {l : List UInt8} (h : Own e w b v l) (hb : b' ≤ b) : Own e w b' v l :=
  ⟨h.1, h.2.imp id fun ⟨g, cap, cur, hv, hg, r⟩ => ⟨g, cap, cur, hv, by omega, r⟩⟩
def St.text (s : St) : List UInt8 := (s.after 4).bytes (s.num 4)
def St.textAfter (s : St) : St := (s.after 4).after (s.num 4)
/-- What Count answers, and leaves. -/
def St.count (s : St) (m : Int) : Int := if m < 0 ∨ m < (s.num 8 : Int) then 0 else (s.num 8 : Int)
def St.countAfter (s : St) (m : Int) : St := if s.bad ∨ s.l.length < 8 ∨ m < 0 ∨ m < (s.num 8 : Int) then ⟨(s.after 8).l, true⟩ else s.after 8
set_option maxRecDepth 100000 in
set_option maxHeartbeats 1000000 in
theorem calls47 (A : Option Addr) (c g gm gr : Nat) (m : Int) (l : List UInt8) (w : World) (hr : Rd w w.heap.size A c l) (hl : l.length = 8) (hm0 : -9223372036854775808 ≤ m) (hm1 : m ≤ 9223372036854775807)
    (h1 : w.cell? ⟨gm, 0, none⟩ = some (.int .i64 m)) (h2 : w.cell? ⟨gr, 0, none⟩ = some (.pointer (some ⟨g, 0, none⟩))) (h3 : w.cell? ⟨g, 1, none⟩ = some (.bool false)) (hf : w.frozen? ⟨g, 1, none⟩ = false) :
    Calls Try.prog 44 #[.slice A 8 c, .pointer (some ⟨gm, 0, none⟩), .pointer (some ⟨gr, 0, none⟩)] w fun e w' =>
      e = .returned (.int .i64 (if m < 0 ∨ m < (val l : Int) then 0 else (val l : Int))) ∧ (if m < 0 ∨ m < (val l : Int) then w.setCell ⟨g, 1, none⟩ (.bool true) else w) = w' := by
  have hc := Lib.hid (number_any A c l w hr (by omega))
  rw [hl] at hc
  have hv : (val l : Int) < 18446744073709551616 := by have := val_lt64 l (by omega); omega
  have hv0 : 0 ≤ (val l : Int) := by omega
  clear hr hl
  by_cases hm : m < 0
  · rw [if_pos (.inl hm), if_pos (.inl hm)]
    go_enter Try.func44, Try.ntmps44
    go_wp2_with (first | (go_at_call 42; refine hc.out.mono ?_; rintro e w1 ⟨rfl, rfl⟩) | (go_at_call 45; refine (Bad_any g _ ⟨_, h3⟩ hf).mono ?_; rintro e w1 ⟨rfl, rfl⟩))
    go_ret
    exact ⟨rfl, rfl⟩
  · by_cases hk : m < (val l : Int)
    · rw [if_pos (.inr hk), if_pos (.inr hk)]
      go_enter Try.func44, Try.ntmps44
      go_wp2_with (first | (go_at_call 42; refine hc.out.mono ?_; rintro e w1 ⟨rfl, rfl⟩) | (go_at_call 45; refine (Bad_any g _ ⟨_, h3⟩ hf).mono ?_; rintro e w1 ⟨rfl, rfl⟩))
      go_ret
      exact ⟨rfl, rfl⟩
    · have hno : ¬ (m < 0 ∨ m < (val l : Int)) := by omega
      rw [if_neg hno, if_neg hno]
      clear hno
      have hv2 : (val l : Int) ≤ 9223372036854775807 := by omega
      clear hv
      go_enter Try.func44, Try.ntmps44
      go_wp2_with (first | (go_at_call 42; refine hc.out.mono ?_; rintro e w1 ⟨rfl, rfl⟩) | (go_at_call 45; refine (Bad_any g _ ⟨_, h3⟩ hf).mono ?_; rintro e w1 ⟨rfl, rfl⟩))
      go_ret
      exact ⟨rfl, rfl⟩
end Go.Proofs.Ytnaoodaadeimbaa
