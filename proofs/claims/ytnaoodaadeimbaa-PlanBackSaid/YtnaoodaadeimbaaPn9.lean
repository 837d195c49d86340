import Derived.Test.YtnaoodaadeimbaaPn8
namespace Go.Proofs.Ytnaoodaadeimbaa.Pl
set_option linter.unusedVariables false
set_option linter.unusedSimpArgs false
open Go.RowKit Mem Ti Mo
set_option maxRecDepth 100000 in
set_option maxHeartbeats 4000000 in
theorem Same_yes (P Q : Pln) (h : Sm P Q) (A A' : Option Addr) (c c' : Nat) (w : World) (B : Nat) (hr : RdT w B A c P.u P.p P.n) (hr' : RdT w B A' c' Q.u Q.p Q.n) (hB : B ≤ w.heap.size) :
    Calls Try.prog 16 #[plv P A c, plv Q A' c'] w fun e w' => e = .returned (.bool true) ∧ Below w.heap.size w w' := by
  obtain ⟨i, dy, mo, ov, ro, ba, n, u, p⟩ := P
  obtain ⟨i', dy', mo', ov', ro', ba', n', u', p'⟩ := Q
  obtain ⟨h1, h2, h3, h4, h5, h6, h7, h8⟩ := h
  simp only at h1 h2 h3 h4 h5 h6 h7 h8 hr hr'
  subst h1 h2 h3 h4 h5 h6 h7
  unfold plv
  simp only
  have hm : n ≤ maxLen := by have := hr.1; have := hr.2.1; omega
  unfold maxLen at hm
  obtain ⟨W0, hW0⟩ : ∃ W0, (w.alloc (.cells #[.int .u32 i, .int .i64 dy, .int .i64 mo, .int .i64 ov, .int .i64 ro, .int .i64 ba, .slice A n c] 25)).alloc (.cells #[.int .u32 i, .int .i64 dy, .int .i64 mo, .int .i64 ov, .int .i64 ro, .int .i64 ba, .slice A' n c'] 25) = W0 := ⟨_, rfl⟩
  have hb : Below w.heap.size w W0 := by rw [← hW0]; exact ((Below.refl _ _).alloc (Nat.le_refl _) _).alloc (by simp) _
  have a1 : VN W0 w.heap.size [.int .u32 i, .int .i64 dy, .int .i64 mo, .int .i64 ov, .int .i64 ro, .int .i64 ba, .slice A n c] := by
    rw [← hW0]; exact (VN.new w #[.int .u32 i, .int .i64 dy, .int .i64 mo, .int .i64 ov, .int .i64 ro, .int .i64 ba, .slice A n c] 25).alloc _
  have a2 : VN W0 (w.heap.size + 1) [.int .u32 i, .int .i64 dy, .int .i64 mo, .int .i64 ov, .int .i64 ro, .int .i64 ba, .slice A' n c'] := by
    have := VN.new (w.alloc (.cells #[.int .u32 i, .int .i64 dy, .int .i64 mo, .int .i64 ov, .int .i64 ro, .int .i64 ba, .slice A n c] 25)) #[.int .u32 i, .int .i64 dy, .int .i64 mo, .int .i64 ov, .int .i64 ro, .int .i64 ba, .slice A' n c'] 25
    rw [World.size_alloc, hW0] at this; exact this
  have HR := Lib.hid (And.intro (hr.below (hb.mono hB)) (hr'.below (hb.mono hB)))
  have H8 := Lib.hid h8
  have HB := Lib.hid hb
  clear hr hr' h8 hb hB
  have e0 := a1.c 0 _ rfl
  have e1 := a1.c 1 _ rfl
  have e2 := a1.c 2 _ rfl
  have e3 := a1.c 3 _ rfl
  have e4 := a1.c 4 _ rfl
  have e5 := a1.c 5 _ rfl
  have e6 := a1.c 6 _ rfl
  have f0 := a2.c 0 _ rfl
  have f1 := a2.c 1 _ rfl
  have f2 := a2.c 2 _ rfl
  have f3 := a2.c 3 _ rfl
  have f4 := a2.c 4 _ rfl
  have f5 := a2.c 5 _ rfl
  have f6 := a2.c 6 _ rfl
  have HE := Lib.hid (And.intro e6 f6)
  clear a1 a2
  go_enter Try.func16, Try.ntmps16
  go_wp2_with fail
  clear e0 e1 e2 e3 e4 e5 e6 f0 f1 f2 f3 f4 f5 f6
  go_loopw [5] (fun v wr => ∃ k : Nat, k ≤ n ∧ v = .int .i64 k ∧ Hid (Below w.heap.size w wr) ∧ Hid (∀ q : Addr, wr.cell? q = W0.cell? q)) (fun v _ => n - (intOf v).toNat)
  · exact ⟨0, by omega, rfl, HB, Lib.hid (fun _ => rfl)⟩
  · obtain ⟨k, hk, rfl, HX, HQ⟩ := hrel
    have e6 := (HQ.out _).trans HE.out.1
    have f6 := (HQ.out _).trans HE.out.2
    by_cases hkn : k < n
    · obtain ⟨r1, r2⟩ := HR.out
      obtain ⟨b, o, rfl, _, hc⟩ := r1.2.2 (by omega)
      obtain ⟨b', o', rfl, _, hc'⟩ := r2.2.2 (by omega)
      have t1 := (HQ.out _).trans (hc k hkn).1
      have t2 := (HQ.out _).trans (hc k hkn).2
      have t3 := (HQ.out _).trans (hc' k hkn).1
      have t4 := (HQ.out _).trans (hc' k hkn).2
      rw [← (H8.out k hkn).1] at t3
      rw [← (H8.out k hkn).2] at t4
      obtain ⟨x, hx⟩ := named (u k)
      obtain ⟨y, hy⟩ := named (p k)
      rw [hx] at t1 t3
      rw [hy] at t2 t4
      have hl1 := r1.1
      have hl2 := r2.1
      clear hc hc' r1 r2 hx hy
      go_wp2_with fail
      go_quiet (fail)
      rename_i nq
      go_wp2_with fail
      go_roundw
      case rel => exact ⟨k + 1, by omega, by go_num, Lib.hid (below_drewN HX.out nq), Lib.hid (fun q => HQ.out q)⟩
      case measure => simp [intOf]; omega
    · obtain rfl : k = n := by omega
      go_wp2_with fail
      go_ret
      exact ⟨rfl, HX.out⟩
end Go.Proofs.Ytnaoodaadeimbaa.Pl
