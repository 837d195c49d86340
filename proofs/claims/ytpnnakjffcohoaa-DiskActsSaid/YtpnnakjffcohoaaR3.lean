import Derived.Test.YtpnnakjffcohoaaR2
namespace Go.Proofs.Ytpnnakjffcohoaa
set_option linter.unusedVariables false
set_option linter.unusedSimpArgs false
open Go.RowKit Mem Go.ChangeMaps
variable {w : World} {rb : Nat} {lv sv : Value} {r : Rfd}

theorem owns_form {w : World} {b s n : Nat} {e : TypeId} {v : Value} {xs : List Value} (h : w.ownsRow b e s v n xs) : ∃ A c, v = .slice A n c := by
  rcases h.2 with ⟨rfl, rfl⟩ | ⟨g, cap, cur, rfl, _⟩
  · exact ⟨_, _, rfl⟩
  · exact ⟨_, _, rfl⟩
theorem wr_info : (Try.prog.info? 68).map (fun i => (i.zero, i.size, i.bytes)) = some (some (.agg #[.int .i64 0, .string ByteArray.empty]), 2, 24) := by kernel_rfl
theorem str_size (l : List UInt8) : (str l).size = l.length := by simp [str, ByteArray.size]

def Rfd.pushed (r : Rfd) (i : Nat) (l : List UInt8) : Rfd := { r with since := r.since ++ [(i, l)] }
def Rfd.fits (r : Rfd) (i : Int) (l : List UInt8) : Bool := r.has i && decide (l.length = 4096)
def Rfd.ansW (r : Rfd) (i : Int) (l : List UInt8) : Int := if r.dead then 9 else if r.fits i l then (if r.cnt then 0 else 9) else 1
def Rfd.doW (r : Rfd) (i : Int) (l : List UInt8) : Rfd := if r.dead then r else if r.fits i l then (r.pushed i.toNat l).counted else r

/-- What was written is laid behind. -/
theorem IsR.push (h : IsR w rb lv sv r) (i : Nat) (l : List UInt8) (hi : i < r.n) (hl : l.length = 4096) {w2 : World} {v : Value}
    (ho : w2.ownsRow 0 68 2 v (r.since.length + 1) (r.since.flatMap pcells ++ [.int .i64 (i : Int), .string (str l)])) (hg : (w.alloc (.cells #[.int .i64 (i : Int), .string (str l)] 68)).grownBy w2 sv.ownBlock)
    (hat : v.ownBlock = sv.ownBlock ∨ v.ownBlock = some (w.alloc (.cells #[.int .i64 (i : Int), .string (str l)] 68)).heap.size) :
    IsR (w2.setCell ⟨rb, 1, none⟩ v) rb lv v (r.pushed i l) ∧ Kr w (rfoot rb lv sv) (w2.setCell ⟨rb, 1, none⟩ v) (rfoot rb lv v) := by
  have hsz : (w.alloc (.cells #[.int .i64 (i : Int), .string (str l)] 68)).heap.size = w.heap.size + 1 := size_alloc' _ _
  have hb1 : ∀ k, k < w.heap.size → sv.ownBlock ≠ some k → w2.heap[k]? = w.heap[k]? := fun k hk hn => (hg.block k (by omega) (fun e => hn e.symm)).trans (Below.heap_alloc _ _ _ hk)
  have hs2 : ∀ k, k ≠ rb → (w2.setCell ⟨rb, 1, none⟩ v).heap[k]? = w2.heap[k]? := fun k hk => Below.heap_setCell _ _ _ _ hk
  have hrb : w2.heap[rb]? = w.heap[rb]? := hb1 rb h.row.lt h.ne_s
  have hvrb : v.ownBlock ≠ some rb := fun e => by
    rcases hat with e2 | e2
    · exact h.ne_s (e2 ▸ e)
    · rw [e2] at e; injection e with e; have := h.row.lt; omega
  refine ⟨⟨((h.row.of_block hrb).set 1 v).congr fun j hj => by match j, hj with | 0, _ | 1, _ | 2, _ | 3, _ => rfl, ?_, ?_, h.n1, h.n2, fun p hp => ?_, h.ln, h.l0, h.l1⟩, ?_, fun k hk hf => ?_⟩
  · exact owns_of_block h.lasts fun k e => (hs2 k (fun e2 => h.ne_l (e2 ▸ e))).trans (hb1 k (World.ownsRow.lt h.lasts k e).2 (h.ne_ls k e))
  · have e1 : (r.pushed i l).since.flatMap pcells = r.since.flatMap pcells ++ [.int .i64 (i : Int), .string (str l)] := by
      show (r.since ++ [(i, l)]).flatMap pcells = _
      rw [List.flatMap_append]; rfl
    have e2 : (r.pushed i l).since.length = r.since.length + 1 := by show (r.since ++ [(i, l)]).length = _; simp
    rw [e1, e2]
    exact owns_of_block ho fun k e => hs2 k (fun e2 => hvrb (e2 ▸ e))
  · rcases List.mem_append.1 hp with hp | hp
    · exact h.sn p hp
    · simp at hp; subst hp; exact ⟨hi, hl⟩
  · refine (((Fr.alloc (F := rfoot rb lv sv) w _)).trans (Fr.grown (F := rfoot rb lv sv) hg fun k _ e => .inr (.inr e)) fun _ _ h => h).trans (Fr.setCell (F := rfoot rb lv sv) _ _ (fun _ => .inl rfl) _) fun _ _ h => h
  · rcases hf with e | e | e
    · exact .inl e
    · exact .inr (.inl e)
    · rcases hat with e2 | e2
      · exact .inr (.inr (e2 ▸ e))
      · rw [e2] at e; injection e with e; omega

set_option maxHeartbeats 1000000 in
theorem rwrite_any (h : IsR w rb lv sv r) (i : Int) (l : List UInt8) (hs : r.since.length ≤ 1000000) :
    Calls Try.prog 30 #[ptr rb, .int .i64 i, .string (str l)] w fun e w' => e = .returned (.int .i64 (r.ansW i l)) ∧ ∃ sv', IsR w' rb lv sv' (r.doW i l) ∧ Kr w (rfoot rb lv sv) w' (rfoot rb lv sv') := by
  have c0 := h.c0
  have c1 := h.c1
  have c3 := h.c3
  have f1 := h.row.frozen 1
  obtain ⟨gl, cl, hlv, _⟩ := h.lform
  rw [hlv] at c0
  have hsz := str_size l
  have H := Lib.hid h
  have HS := Lib.hid hs
  obtain ⟨i0, hi, hz0, hz1, hz2⟩ := info_parts wr_info
  clear h hlv hs
  by_cases hd : r.dead = true
  · have e1 : r.ansW i l = 9 := if_pos hd
    have e2 : r.doW i l = r := if_pos hd
    rw [e1, e2]
    rw [hd] at c3
    clear e1 e2 hd
    go_enter Try.func30, Try.ntmps30
    go_wp2
    go_ret
    exact ⟨rfl, sv, H.out, Kr.refl _ _⟩
  · have hd' : r.dead = false := by simpa using hd
    rw [hd'] at c3
    by_cases hf : r.fits i l = true
    · have e1 : r.ansW i l = if r.cnt then 0 else 9 := by unfold Rfd.ansW; rw [hd', hf]; rfl
      have e2 : r.doW i l = (r.pushed i.toNat l).counted := by unfold Rfd.doW; rw [hd', hf]; rfl
      have hf' : (0 ≤ i ∧ i < r.n) ∧ l.length = 4096 := by simpa [Rfd.fits, Rfd.has] using hf
      obtain ⟨k, rfl⟩ := Int.eq_ofNat_of_zero_le hf'.1.1
      rw [e1, e2, Int.toNat_natCast]
      have HF := Lib.hid hf'
      have hin : (k : Int) < (r.n : Int) := hf'.1.2
      have hl4 : (str l).size = 4096 := by rw [hsz, hf'.2]
      obtain ⟨bb, hbb⟩ : ∃ bb, bb = r.cnt := ⟨_, rfl⟩
      rw [← hbb]
      have HBB := Lib.hid hbb
      have O1 := Lib.hid (World.ownsRow.alloc H.out.since (.cells #[.int .i64 (k : Int), .string (str l)] 68))
      have CN := Lib.hid (fun (w2 : World) (v : Value) (hi : IsR w2 rb lv v (r.pushed k l)) => show Calls Try.prog 45 #[ptr rb] w2 fun e w' => e = .returned (.bool bb) ∧ IsR w' rb lv v (r.pushed k l).counted ∧ Kr w2 (rfoot rb lv v) w' (rfoot rb lv v) from by
        have := counts_any hi
        rw [show (r.pushed k l).cnt = bb from hbb.symm] at this
        exact this)
      have hl1 : r.since.length + 1 ≤ 1000001 := by have := HS.out; omega
      obtain ⟨sn, hsn⟩ : ∃ sn, sn = r.since.length := ⟨_, rfl⟩
      rw [← hsn] at O1 hl1
      have HSN := Lib.hid hsn
      have CA := Lib.hid (show ∀ j u, ([.int .i64 (k : Int), .string (str l)] : List Value)[j]? = some u → (w.alloc (.cells #[.int .i64 (k : Int), .string (str l)] 68)).cell? ((⟨w.heap.size, 0, none⟩ : Addr).add j) = some u from fun j u hu => by
        rw [show (⟨w.heap.size, 0, none⟩ : Addr).add j = ⟨w.heap.size, j, none⟩ by unfold Addr.add; split <;> simp_all, cell_of_row _ _ _ _ _ _ (heap_alloc_new w _)]
        exact List.getElem?_toArray.trans hu)
      have LT := Lib.hid H.out.row.lt
      clear hd hd' hf e1 e2 hf' hsz hbb hsn
      have PU := Lib.hid (fun (w2 : World) (v : Value) (ho : w2.ownsRow 0 68 2 v (sn + 1) (r.since.flatMap pcells ++ [.int .i64 (k : Int), .string (str l)])) (hg : (w.alloc (.cells #[.int .i64 (k : Int), .string (str l)] 68)).grownBy w2 sv.ownBlock) (hat : v.ownBlock = sv.ownBlock ∨ v.ownBlock = some (w.alloc (.cells #[.int .i64 (k : Int), .string (str l)] 68)).heap.size) =>
        H.out.push k l (by have := HF.out.1.2; omega) HF.out.2 (by rw [← HSN.out]; exact ho) hg hat)
      have RB := Lib.hid (fun (w2 : World) (hg : (w.alloc (.cells #[.int .i64 (k : Int), .string (str l)] 68)).grownBy w2 sv.ownBlock) =>
        show w2.heap[rb]? = w.heap[rb]? from (hg.block rb (Nat.lt_of_lt_of_le LT.out (by simp)) (fun e => H.out.ne_s e.symm)).trans (Below.heap_alloc _ _ _ LT.out))
      go_enter Try.func30, Try.ntmps30
      go_wp2_with (at_builtin; refine wpList_append_own_at _ rfl _ _ 38 rfl 0 68 i0 (.agg #[.int .i64 0, .string ByteArray.empty]) 2 24 Try.underlying38 hi hz0 hz1 hz2 rfl (by decide) _ _ _ rfl O1.out ⟨w.heap.size, 0, none⟩ 1 1 [.int .i64 (k : Int), .string (str l)] rfl rfl CA.out (by intro u hu; simp at hu; rcases hu with rfl | rfl <;> rfl) (by unfold maxLen; omega) (by omega) (Nat.zero_le _) ?_; intro v' w3 hown hgrow hnil hloc; have X := Lib.hid (PU.out _ _ hown hgrow hloc); have hr := RB.out _ hgrow; have d1 := (World.cell?_of_block (w := w) (a := ⟨rb, 1, none⟩) hr).trans c1; have d2 := (World.frozen?_of_block (w := w) (a := ⟨rb, 1, none⟩) hr).trans f1; obtain ⟨Av, cv, rfl⟩ := owns_form hown; clear hown hgrow hnil hloc hr)
      rcases bb with _ | _
      · go_wp2_with (go_at_call 45; refine (CN.out _ _ X.out.1).mono ?_; rintro e w4 ⟨rfl, x4, k4⟩; have X4 := Lib.hid x4; have K4 := Lib.hid (X.out.2.trans k4); clear x4 k4)
        go_ret
        exact ⟨rfl, _, X4.out, K4.out⟩
      · go_wp2_with (go_at_call 45; refine (CN.out _ _ X.out.1).mono ?_; rintro e w4 ⟨rfl, x4, k4⟩; have X4 := Lib.hid x4; have K4 := Lib.hid (X.out.2.trans k4); clear x4 k4)
        go_ret
        exact ⟨rfl, _, X4.out, K4.out⟩
    · have e1 : r.ansW i l = 1 := by unfold Rfd.ansW; rw [hd']; simp [hf]
      have e2 : r.doW i l = r := by unfold Rfd.doW; rw [hd']; simp [hf]
      rw [e1, e2]
      have hf' : ¬ (0 ≤ i ∧ i < r.n ∧ l.length = 4096) := fun hh => hf (by simp [Rfd.fits, Rfd.has, hh.1, hh.2.1, hh.2.2])
      by_cases hi0 : i < 0
      · clear hf hd hd' e1 e2 hf'
        go_enter Try.func30, Try.ntmps30
        go_wp2
        go_ret
        exact ⟨rfl, sv, H.out, Kr.refl _ _⟩
      · by_cases hin : i < r.n
        · have hne : ¬ ((l.length : Nat) : Int) = 4096 := fun e => hf' ⟨by omega, hin, by omega⟩
          have hne2 : (((str l).size : Nat) : Int) = ((l.length : Nat) : Int) := by rw [hsz]
          have hne3 : (((l.length : Nat) : Int) != 4096) = true := bne_iff_ne.2 hne
          clear hf hd hd' e1 e2 hf' hsz
          go_enter Try.func30, Try.ntmps30
          go_wp2
          go_ret
          exact ⟨rfl, sv, H.out, Kr.refl _ _⟩
        · clear hf hd hd' e1 e2 hf'
          go_enter Try.func30, Try.ntmps30
          go_wp2
          go_ret
          exact ⟨rfl, sv, H.out, Kr.refl _ _⟩
end Go.Proofs.Ytpnnakjffcohoaa
