import Derived.Test.YtpnnakjffcohoaaR1
namespace Go.Proofs.Ytpnnakjffcohoaa
set_option linter.unusedVariables false
set_option linter.unusedSimpArgs false
open Go.RowKit Mem Go.ChangeMaps
variable {w : World} {rb : Nat} {lv sv : Value} {r : Rfd}

/-- What waits of a page, out of what was written in order. -/
def waitOf (l : List (Nat × List UInt8)) (i : Nat) : Option (List UInt8) := l.foldl (fun f p => if p.1 = i then some p.2 else f) none
theorem waitOf_snoc (l : List (Nat × List UInt8)) (p : Nat × List UInt8) (i : Nat) : waitOf (l ++ [p]) i = if p.1 = i then some p.2 else waitOf l i := by
  simp [waitOf, List.foldl_append]
def Rfd.page (r : Rfd) (i : Nat) : List UInt8 := (waitOf r.since i).getD (r.lasts i)

theorem pcells_at : ∀ (l : List (Nat × List UInt8)) (j : Nat) (p : Nat × List UInt8), l[j]? = some p → (l.flatMap pcells)[2 * j]? = some (.int .i64 (p.1 : Int)) ∧ (l.flatMap pcells)[2 * j + 1]? = some (.string (str p.2))
  | [], j, p, h => by simp at h
  | q :: l, 0, p, h => by
    simp at h; subst h
    exact ⟨rfl, rfl⟩
  | q :: l, j + 1, p, h => by
    have ih := pcells_at l j p (by simpa using h)
    have e1 : 2 * (j + 1) = (2 * j) + 2 := by omega
    rw [List.flatMap_cons, e1]
    exact ih

theorem IsR.form (h : IsR w rb lv sv r) : ∃ A c, sv = .slice A r.since.length c ∧ (0 < r.since.length → ∃ g, A = some ⟨g, 0, none⟩ ∧ ∀ j p, r.since[j]? = some p → w.cell? ⟨g, j * 2, none⟩ = some (.int .i64 (p.1 : Int)) ∧ w.cell? ⟨g, j * 2 + 1, none⟩ = some (.string (str p.2))) := by
  have hcells := fun g hg => World.ownsRow.cells (g := g) h.since hg
  rcases h.since.2 with ⟨rfl, h0⟩ | ⟨g, cap, cur, rfl, hb, hh, hnc, hcm, _, _⟩
  · exact ⟨none, 0, by rw [h0], fun h => by omega⟩
  · refine ⟨_, cap, rfl, fun _ => ⟨g, rfl, fun j p hp => ?_⟩⟩
    obtain ⟨x1, x2⟩ := pcells_at r.since j p hp
    have y1 := hcells g rfl (2 * j) _ x1
    have y2 := hcells g rfl (2 * j + 1) _ x2
    rw [show (⟨g, 0, none⟩ : Addr).add (2 * j) = ⟨g, 2 * j, none⟩ by unfold Addr.add; split <;> simp_all] at y1
    rw [show (⟨g, 0, none⟩ : Addr).add (2 * j + 1) = ⟨g, 2 * j + 1, none⟩ by unfold Addr.add; split <;> simp_all] at y2
    rw [Nat.mul_comm j 2]
    exact ⟨y1, y2⟩
theorem IsR.lform (h : IsR w rb lv sv r) : ∃ g c, lv = .slice (some ⟨g, 0, none⟩) r.n c ∧ ∀ i, i < r.n → w.cell? ⟨g, i, none⟩ = some (.string (str (r.lasts i))) := by
  have hcells := fun g hg => World.ownsRow.cells (g := g) h.lasts hg
  have hn := h.n1
  rcases h.lasts.2 with ⟨rfl, h0⟩ | ⟨g, cap, cur, rfl, hb, hh, hnc, hcm, _, _⟩
  · omega
  · refine ⟨g, cap, rfl, fun i hi => ?_⟩
    have := hcells g rfl i (.string (str (r.lasts i))) (by simp [hi])
    rwa [show (⟨g, 0, none⟩ : Addr).add i = ⟨g, i, none⟩ by unfold Addr.add; split <;> simp_all] at this

set_option maxHeartbeats 1000000 in
theorem rat_any (h : IsR w rb lv sv r) (i : Nat) (hi : i < r.n) (hs : r.since.length ≤ 1000000) : Calls Try.prog 38 #[ptr rb, .int .i64 i] w fun e w' => e = .returned (.string (str (r.page i))) ∧ w = w' := by
  have c0 := h.c0
  have c1 := h.c1
  obtain ⟨A, c, hsv, hsc⟩ := h.form
  obtain ⟨gl, cl, hlv, hlc⟩ := h.lform
  rw [hsv] at c1
  rw [hlv] at c0
  obtain ⟨m, hm⟩ : ∃ m, m = r.since.length := ⟨_, rfl⟩
  obtain ⟨rn, hrn⟩ : ∃ rn, rn = r.n := ⟨_, rfl⟩
  rw [← hm] at c1 hs
  rw [← hrn] at c0
  have HS := Lib.hid hsc
  have HM := Lib.hid hm
  have HL := Lib.hid (hlc i hi)
  have hir : (i : Int) < (rn : Int) := by omega
  clear h hsc hlc hsv hlv hm hrn hi
  go_enter Try.func38, Try.ntmps38
  go_wp2
  go_loopw [5] (fun v wr => ∃ k : Nat, k ≤ m ∧ v = .int .i64 ((k : Int) - 1) ∧ w = wr ∧ Hid (waitOf r.since i = waitOf (r.since.take k) i)) (fun v _ => (intOf v + 1).toNat)
  case atStart => exact ⟨m, Nat.le_refl _, rfl, rfl, by rw [HM.out, List.take_length]; exact Lib.hid rfl⟩
  case round =>
    obtain ⟨k, hk, rfl, rfl, hw⟩ := hrel
    rcases k with _ | k
    · have he : Rfd.page r i = r.lasts i := by
        unfold Rfd.page; rw [hw.out]; rfl
      have HE := Lib.hid he
      have hl := HL.out
      obtain ⟨st, hst⟩ : ∃ st, st = str (r.lasts i) := ⟨_, rfl⟩
      rw [← hst] at hl
      have HST := Lib.hid hst
      clear he hst
      go_wp2
      go_ret
      exact ⟨by rw [HE.out, ← HST.out]; rfl, rfl⟩
    · have hkl : k < r.since.length := by have := HM.out; omega
      obtain ⟨g, rfl, hc⟩ := HS.out (by omega)
      obtain ⟨x1, x2⟩ := hc k r.since[k] (List.getElem?_eq_getElem hkl)
      have e1 : ((k + 1 : Nat) : Int) - 1 = (k : Int) := by omega
      have ht : waitOf (r.since.take (k + 1)) i = if r.since[k].1 = i then some r.since[k].2 else waitOf (r.since.take k) i := by
        rw [List.take_succ_eq_append_getElem hkl, waitOf_snoc]
      have HT := Lib.hid ht
      have hk1 : (k : Int) < (m : Int) := by omega
      have hw1 : wrap64 ((k : Int) - 1) = (k : Int) - 1 := by unfold wrap64; omega
      by_cases hx : r.since[k].1 = i
      · rw [hx] at x1
        have HE := Lib.hid (show r.page i = r.since[k].2 by unfold Rfd.page; rw [hw.out, HT.out, if_pos hx]; rfl)
        obtain ⟨st, hst⟩ : ∃ st, st = str r.since[k].2 := ⟨_, rfl⟩
        rw [← hst] at x2
        have HST := Lib.hid hst
        clear ht hx hst hc hw
        rw [e1]
        go_wp2
        go_ret
        exact ⟨by rw [HE.out, ← HST.out]; rfl, rfl⟩
      · have HE := Lib.hid (show waitOf r.since i = waitOf (r.since.take k) i by rw [hw.out, HT.out, if_neg hx])
        have hxi : (((r.since[k].1 : Nat) : Int) == (i : Int)) = false := beq_eq_false_iff_ne.2 (by omega)
        generalize r.since[k].1 = pv at x1 hxi
        clear ht hx hc hw x2
        rw [e1]
        go_wp2
        go_roundw
        case rel => exact ⟨k, by omega, by go_num, trivial, HE.out⟩
        case measure => simp [intOf]

def Rfd.has (r : Rfd) (i : Int) : Bool := decide (0 ≤ i ∧ i < r.n)
def Rfd.ref (r : Rfd) (i : Int) : Int := if r.dead then 9 else if r.has i then 0 else 1
def Rfd.rd (r : Rfd) (i : Int) : ByteArray := if r.ref i = 0 then str (r.page i.toNat) else ByteArray.empty
set_option maxHeartbeats 1000000 in
theorem rread_any (h : IsR w rb lv sv r) (i : Int) (hs : r.since.length ≤ 1000000) : Calls Try.prog 20 #[ptr rb, .int .i64 i] w fun e w' => e = .returned (.tuple #[.string (r.rd i), .int .i64 (r.ref i)]) ∧ w = w' := by
  have c0 := h.c0
  have c3 := h.c3
  obtain ⟨gl, cl, hlv, _⟩ := h.lform
  rw [hlv] at c0
  have H := Lib.hid h
  have HS := Lib.hid hs
  clear h hlv hs
  by_cases hd : r.dead = true
  · have e1 : r.ref i = 9 := by simp [Rfd.ref, hd]
    have e2 : r.rd i = ByteArray.empty := if_neg (by rw [e1]; omega)
    rw [e1, e2]
    rw [hd] at c3
    clear e1 e2 hd
    go_enter Try.func20, Try.ntmps20
    go_wp2
    go_ret2
    exact ⟨rfl, rfl⟩
  · have hd' : r.dead = false := by simpa using hd
    rw [hd'] at c3
    clear hd
    by_cases hi0 : i < 0
    · have e1 : r.ref i = 1 := by simp [Rfd.ref, hd', Rfd.has]; omega
      have e2 : r.rd i = ByteArray.empty := if_neg (by rw [e1]; omega)
      rw [e1, e2]
      clear e1 e2 hd'
      go_enter Try.func20, Try.ntmps20
      go_wp2
      go_ret2
      exact ⟨rfl, rfl⟩
    · by_cases hin : i < r.n
      · have e1 : r.ref i = 0 := by simp only [Rfd.ref, hd', Rfd.has, hin, and_true, Bool.false_eq_true, if_false]; rw [if_pos (by simp; omega)]
        have e2 : r.rd i = str (r.page i.toNat) := if_pos e1
        rw [e1, e2]
        obtain ⟨k, rfl⟩ := Int.eq_ofNat_of_zero_le (show 0 ≤ i by omega)
        have hk : k < r.n := by omega
        have HA := Lib.hid (rat_any H.out k hk HS.out)
        rw [Int.toNat_natCast]
        clear e1 e2 hd' hk
        go_enter Try.func20, Try.ntmps20
        go_wp2_with (go_at_call 38; refine HA.out.mono ?_; rintro e w1 ⟨rfl, rfl⟩)
        go_ret2
        exact ⟨rfl, rfl⟩
      · have e1 : r.ref i = 1 := by simp [Rfd.ref, hd', Rfd.has, hin]
        have e2 : r.rd i = ByteArray.empty := if_neg (by rw [e1]; omega)
        rw [e1, e2]
        clear e1 e2 hd'
        go_enter Try.func20, Try.ntmps20
        go_wp2
        go_ret2
        exact ⟨rfl, rfl⟩
end Go.Proofs.Ytpnnakjffcohoaa
