import Derived.Test.YtnpebfolmdbipaaGreatDoorD3
namespace Go.Proofs.YtnpebfolmdbipaaGreatDoor.Dk
set_option linter.unusedVariables false
set_option linter.unusedSimpArgs false
open Go.RowKit Mem Go.ChangeMaps
variable {w : World} {db : Nat} {y : Lay} {d : Dsk}

theorem enter36 (args : Array Value) (W : World) : (callFunc 71 args).run Tryz.prog W = .ok (.enter 71 args) W := by kernel_rfl
theorem enter41 (args : Array Value) (W : World) : (callFunc 118 args).run Tryz.prog W = .ok (.enter 118 args) W := by kernel_rfl
theorem enter43 (args : Array Value) (W : World) : (callFunc 87 args).run Tryz.prog W = .ok (.enter 87 args) W := by kernel_rfl
theorem hmf : ∀ (fn : Fn) (first cap : Array Value) (w : World), (Instr.makeFunc fn first cap).run Tryz.prog w = .ok (.func fn first cap) w := fun _ _ _ _ => rfl

/-- Read's question. -/
theorem fits36 (h : IsD w db y d) (p q : Addr) (i : Int) (hp : w.cell? p = some (ptr db)) (hq : w.cell? q = some (.int .i64 i)) :
    Calls Tryz.prog 71 #[.pointer (some p), .pointer (some q)] w fun e w' => e = .returned (.bool (d.has i)) ∧ w' = w := by
  have H := Lib.hid h
  clear h
  go_enter Tryz.func71, Tryz.ntmps71
  go_wp2_with (go_at_call 72; refine (has_any H.out i).mono ?_; rintro e w1 ⟨rfl, rfl⟩)
  go_ret
  exact ⟨rfl, rfl⟩
/-- Write's question. -/
theorem fits43 (h : IsD w db y d) (p q r : Addr) (i : Int) (A : Option Addr) (n c : Nat) (hp : w.cell? p = some (ptr db)) (hq : w.cell? q = some (.int .i64 i)) (hr : w.cell? r = some (.slice A n c)) :
    Calls Tryz.prog 87 #[.pointer (some p), .pointer (some q), .pointer (some r)] w fun e w' => e = .returned (.bool (d.has i && decide (n = 4096))) ∧ w' = w := by
  have H := Lib.hid h
  clear h
  by_cases hi : d.has i = true
  · by_cases hn : n = 4096
    · have e : (d.has i && decide (n = 4096)) = true := by simp [hi, hn]
      rw [e]
      subst hn
      go_enter Tryz.func87, Tryz.ntmps87
      go_wp2_with (go_at_call 72; refine (has_any H.out i).mono ?_; rintro e w1 ⟨rfl, rfl⟩)
      go_ret
      exact ⟨rfl, rfl⟩
    · have e : (d.has i && decide (n = 4096)) = false := by simp [hn]
      rw [e]
      have hn' : ((n : Int) == 4096) = false := by simp; omega
      go_enter Tryz.func87, Tryz.ntmps87
      go_wp2_with (go_at_call 72; refine (has_any H.out i).mono ?_; rintro e w1 ⟨rfl, rfl⟩)
      go_ret
      exact ⟨rfl, rfl⟩
  · have hi' : d.has i = false := by simpa using hi
    have e : (d.has i && decide (n = 4096)) = false := by simp [hi']
    rw [e]
    go_enter Tryz.func87, Tryz.ntmps87
    go_wp2_with (go_at_call 72; refine (has_any H.out i).mono ?_; rintro e w1 ⟨rfl, rfl⟩)
    go_ret
    exact ⟨rfl, rfl⟩
/-- Flush's question. -/
theorem fits41 (w : World) : Calls Tryz.prog 118 #[] w fun e w' => e = .returned (.bool true) ∧ w' = w := by
  go_enter Tryz.func118, Tryz.ntmps118
  go_wp2
  go_ret
  exact ⟨rfl, rfl⟩

/-- What a call answers ahead of its work. -/
def refuse (d : Dsk) (fits : Bool) : Int := if d.dead then 9 else if fits then 0 else 1

theorem refuses_any (h : IsD w db y d) (F : Nat) (cap : Array Value) (b : Bool) (hin : ∀ W, (callFunc F cap).run Tryz.prog W = .ok (.enter F cap) W) (hf : Calls Tryz.prog F cap w fun e w' => e = .returned (.bool b) ∧ w' = w) :
    Calls Tryz.prog 70 #[ptr db, .func (.func F) #[] cap] w fun e w' => e = .returned (.int .i64 (refuse d b)) ∧ w' = w := by
  have h3 := h.c3
  have H := Lib.hid h
  have H2 := Lib.hid hf
  clear h hf
  by_cases hd : d.dead = true
  · have e : refuse d b = 9 := by simp [refuse, hd]
    rw [e]
    rw [hd] at h3
    go_enter Tryz.func70, Tryz.ntmps70
    go_wp2
    go_ret
    exact ⟨rfl, rfl⟩
  · have hd' : d.dead = false := by simpa using hd
    rw [hd'] at h3
    cases b with
    | true =>
      have e : refuse d true = 0 := by simp [refuse, hd']
      rw [e]
      go_enter Tryz.func70, Tryz.ntmps70
      go_wp2_with (with_reducible refine H2.out.mono ?_; rintro e w1 ⟨rfl, rfl⟩)
      go_ret
      exact ⟨rfl, rfl⟩
    | false =>
      have e : refuse d false = 1 := by simp [refuse, hd']
      rw [e]
      go_enter Tryz.func70, Tryz.ntmps70
      go_wp2_with (with_reducible refine H2.out.mono ?_; rintro e w1 ⟨rfl, rfl⟩)
      go_ret
      exact ⟨rfl, rfl⟩
theorem refuses_nil (w : World) (f : Value) : Calls Tryz.prog 70 #[.pointer none, f] w fun e w' => e = .returned (.int .i64 8) ∧ w' = w := by
  go_enter Tryz.func70, Tryz.ntmps70
  go_wp2
  go_ret
  exact ⟨rfl, rfl⟩

/-- One call off the fuse: whether the power goes, and the disk behind it. -/
def Dsk.burnt (d : Dsk) : Bool := d.fuse == some 0
def Dsk.burn (d : Dsk) : Dsk := match d.fuse with | none => d | some 0 => { d with dead := true } | some (k + 1) => { d with fuse := some k }

theorem burns_any (h : IsD w db y d) : Calls Tryz.prog 89 #[ptr db] w fun e w' => e = .returned (.bool d.burnt) ∧ IsD w' db y d.burn ∧ Kp w y w' y := by
  have h4 := h.c4
  have h5 := h.c5
  have f5 := h.frozen 5
  have hlt := h.fuseOk
  have H := Lib.hid h
  clear h
  rcases hf : d.fuse with _ | k
  · have e : d.burnt = false := by simp [Dsk.burnt, hf]
    have e2 : d.burn = d := by simp [Dsk.burn, hf]
    rw [e, e2]
    rw [hf] at h4 h5
    clear hf
    go_enter Tryz.func89, Tryz.ntmps89
    go_wp2
    go_ret
    exact ⟨rfl, H.out, Kp.refl _ _⟩
  · rcases k with _ | k
    · have e : d.burnt = true := by simp [Dsk.burnt, hf]
      have e2 : d.burn = { d with dead := true } := by simp [Dsk.burn, hf]
      rw [e, e2]
      rw [hf] at h4 h5
      clear hf
      go_enter Tryz.func89, Tryz.ntmps89
      go_wp2_with (go_at_call 42; refine (kill_any H.out).mono ?_; rintro e w1 ⟨rfl, hd1, hk1⟩; have H1 := Lib.hid hd1; have H2 := Lib.hid hk1; clear hd1 hk1)
      go_ret
      exact ⟨rfl, H1.out, H2.out⟩
    · have e : d.burnt = false := by simp [Dsk.burnt, hf]
      have e2 : d.burn = { d with fuse := some k } := by simp [Dsk.burn, hf]
      rw [e, e2]
      rw [hf] at h4 h5 hlt
      simp only [Option.getD_some] at h5 hlt
      have K : IsD (w.setCell ⟨db, 5, none⟩ (.int .i64 (k : Int))) db y { d with fuse := some k } :=
        H.out.set 5 _ _ (fun j hj => by match j, hj with | 0, _ | 1, _ | 2, _ | 3, _ | 5, _ => rfl | 4, _ => simp [cells, hf]) rfl rfl rfl rfl (by simp; omega)
      have K := Lib.hid K
      have F1 := Lib.hid (H.out.setFr 5 (.int .i64 (k : Int)))
      clear hf
      have e1 : wrap64 (((k + 1 : Nat) : Int) - 1) = (k : Int) := by unfold wrap64; omega
      have e3 : ¬ (((k + 1 : Nat) : Int) = 0) := by omega
      go_enter Tryz.func89, Tryz.ntmps89
      go_wp2
      go_ret
      exact ⟨rfl, K.out, Kp.same F1.out⟩
end Go.Proofs.YtnpebfolmdbipaaGreatDoor.Dk
