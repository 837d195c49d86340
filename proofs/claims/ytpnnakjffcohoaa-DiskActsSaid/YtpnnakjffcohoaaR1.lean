import Derived.Test.YtpnnakjffcohoaaA5
namespace Go.Proofs.Ytpnnakjffcohoaa
set_option linter.unusedVariables false
set_option linter.unusedSimpArgs false
open Go.RowKit Mem Go.ChangeMaps

/-- The document's own disk, as data. -/
structure Rfd where
  n : Nat
  lasts : Nat → List UInt8
  since : List (Nat × List UInt8)
  left : Int
  dead : Bool
def rcells (lv sv : Value) (r : Rfd) : Nat → Value
  | 0 => lv
  | 1 => sv
  | 2 => .int .i64 r.left
  | _ => .bool r.dead
def pcells (p : Nat × List UInt8) : List Value := [.int .i64 (p.1 : Int), .string (str p.2)]
/-- In world w the document's disk r lies at block rb. -/
structure IsR (w : World) (rb : Nat) (lv sv : Value) (r : Rfd) : Prop where
  row : w.rowIs rb 40 4 (rcells lv sv r)
  lasts : w.ownsRow 0 9 1 lv r.n ((List.range r.n).map fun i => .string (str (r.lasts i)))
  since : w.ownsRow 0 68 2 sv r.since.length (r.since.flatMap pcells)
  n1 : 1 ≤ r.n
  n2 : r.n ≤ 4096
  sn : ∀ p ∈ r.since, p.1 < r.n ∧ p.2.length = 4096
  ln : ∀ i, i < r.n → (r.lasts i).length = 4096
  l0 : -9223372036854775808 ≤ r.left
  l1 : r.left < 9223372036854775808
/-- Its blocks. -/
def rfoot (rb : Nat) (lv sv : Value) (k : Nat) : Prop := k = rb ∨ lv.ownBlock = some k ∨ sv.ownBlock = some k

section
variable {w w' : World} {rb : Nat} {lv sv : Value} {r : Rfd}
theorem IsR.lt (h : IsR w rb lv sv r) (k : Nat) (hk : rfoot rb lv sv k) : k < w.heap.size := by
  rcases hk with rfl | e | e
  · exact h.row.lt
  · exact (World.ownsRow.lt h.lasts k e).2
  · exact (World.ownsRow.lt h.since k e).2
theorem IsR.keep (h : IsR w rb lv sv r) (hk : ∀ k, rfoot rb lv sv k → w'.heap[k]? = w.heap[k]?) : IsR w' rb lv sv r :=
  { h with row := h.row.of_block (hk _ (.inl rfl)), lasts := owns_of_block h.lasts fun k e => hk k (.inr (.inl e)), since := owns_of_block h.since fun k e => hk k (.inr (.inr e)) }
theorem IsR.below (h : IsR w rb lv sv r) (hb : Below w.heap.size w w') : IsR w' rb lv sv r := h.keep fun k hk => hb.block k (h.lt k hk)
theorem IsR.ne_l (h : IsR w rb lv sv r) : lv.ownBlock ≠ some rb := fun e => by
  obtain ⟨c, hb, _⟩ := h.row
  rcases h.lasts.2 with ⟨rfl, _⟩ | ⟨g, cap, cur, rfl, _, hh, _⟩
  · cases e
  · cases e; rw [hb] at hh; cases hh
theorem IsR.ne_s (h : IsR w rb lv sv r) : sv.ownBlock ≠ some rb := fun e => by
  obtain ⟨c, hb, _⟩ := h.row
  rcases h.since.2 with ⟨rfl, _⟩ | ⟨g, cap, cur, rfl, _, hh, _⟩
  · cases e
  · cases e; rw [hb] at hh; cases hh
theorem IsR.ne_ls (h : IsR w rb lv sv r) (k : Nat) (e : lv.ownBlock = some k) : sv.ownBlock ≠ some k := fun e2 => by
  rcases h.lasts.2 with ⟨rfl, _⟩ | ⟨g, cap, cur, rfl, _, hh, _⟩
  · cases e
  · rcases h.since.2 with ⟨rfl, _⟩ | ⟨g', cap', cur', rfl, _, hh', _⟩
    · cases e2
    · cases e; cases e2; rw [hh] at hh'; cases hh'
theorem IsR.c0 (h : IsR w rb lv sv r) : w.cell? ⟨rb, 0, none⟩ = some lv := h.row.cell (by omega)
theorem IsR.c1 (h : IsR w rb lv sv r) : w.cell? ⟨rb, 1, none⟩ = some sv := h.row.cell (by omega)
theorem IsR.c2 (h : IsR w rb lv sv r) : w.cell? ⟨rb, 2, none⟩ = some (.int .i64 r.left) := h.row.cell (by omega)
theorem IsR.c3 (h : IsR w rb lv sv r) : w.cell? ⟨rb, 3, none⟩ = some (.bool r.dead) := h.row.cell (by omega)
/-- A plain field is written. -/
theorem IsR.set (h : IsR w rb lv sv r) (i : Nat) (v : Value) (r' : Rfd) (hv : ∀ j, j < 4 → rcells lv sv r' j = if j = i then v else rcells lv sv r j) (h1 : r'.n = r.n) (h2 : r'.lasts = r.lasts) (h3 : r'.since = r.since) (h4 : -9223372036854775808 ≤ r'.left ∧ r'.left < 9223372036854775808) :
    IsR (w.setCell ⟨rb, i, none⟩ v) rb lv sv r' := by
  have ho : ∀ k, k ≠ rb → (w.setCell ⟨rb, i, none⟩ v).heap[k]? = w.heap[k]? := fun k hk => Below.heap_setCell _ _ _ _ hk
  refine ⟨(h.row.set i v).congr fun j hj => (hv j hj).symm, ?_, ?_, h1 ▸ h.n1, h1 ▸ h.n2, fun p hp => by rw [h1]; exact h.sn p (h3 ▸ hp), fun j hj => by rw [h2]; exact h.ln j (h1 ▸ hj), h4.1, h4.2⟩
  · rw [h1, h2]; exact owns_of_block h.lasts fun k e => ho k (fun e2 => h.ne_l (e2 ▸ e))
  · rw [h3]; exact owns_of_block h.since fun k e => ho k (fun e2 => h.ne_s (e2 ▸ e))
end

/-- What a call on the document's disk may turn. -/
structure Kr (w : World) (F : Nat → Prop) (w' : World) (F' : Nat → Prop) : Prop where
  fr : Fr F w w'
  foot : ∀ k, k < w.heap.size → F' k → F k
theorem Kr.refl (w : World) (F : Nat → Prop) : Kr w F w F := ⟨Fr.refl _ _, fun _ _ h => h⟩
theorem Kr.same {w w' : World} {F : Nat → Prop} (h : Fr F w w') : Kr w F w' F := ⟨h, fun _ _ h => h⟩
theorem Kr.trans {a w w' : World} {F G H : Nat → Prop} (h : Kr a F w G) (k : Kr w G w' H) : Kr a F w' H :=
  ⟨h.fr.trans k.fr fun b hb hf => h.foot b hb hf, fun b hb hf => h.foot b hb (k.foot b (Nat.lt_of_lt_of_le hb h.fr.size) hf)⟩

variable {w : World} {rb : Nat} {lv sv : Value} {r : Rfd}
/-- One call off the fuse. -/
def Rfd.cnt (r : Rfd) : Bool := !(r.left == 0)
def Rfd.counted (r : Rfd) : Rfd := if r.left = 0 then { r with dead := true } else if 0 < r.left then { r with left := r.left - 1 } else r

theorem counts_any (h : IsR w rb lv sv r) : Calls Try.prog 45 #[ptr rb] w fun e w' => e = .returned (.bool r.cnt) ∧ IsR w' rb lv sv r.counted ∧ Kr w (rfoot rb lv sv) w' (rfoot rb lv sv) := by
  have c2 := h.c2
  have c3 := h.c3
  have f2 := h.row.frozen 2
  have f3 := h.row.frozen 3
  have H := Lib.hid h
  have hl0 := h.l0
  have hl1 := h.l1
  clear h
  by_cases h0 : r.left = 0
  · have e1 : r.cnt = false := by simp [Rfd.cnt, h0]
    have e2 : r.counted = { r with dead := true } := by simp [Rfd.counted, h0]
    have K := Lib.hid (H.out.set 3 (.bool true) { r with dead := true } (fun j hj => by match j, hj with | 0, _ | 1, _ | 2, _ | 3, _ => rfl) rfl rfl rfl ⟨H.out.l0, H.out.l1⟩)
    rw [e1, e2]
    rw [h0] at c2
    clear e1 e2 h0 hl0 hl1
    go_enter Try.func45, Try.ntmps45
    go_wp2
    go_ret
    exact ⟨rfl, K.out, Kr.same (Fr.setCell _ _ (fun _ => .inl rfl) _)⟩
  · by_cases hp : 0 < r.left
    · have e1 : r.cnt = true := by simp [Rfd.cnt, h0]
      have e2 : r.counted = { r with left := r.left - 1 } := by simp [Rfd.counted, h0, hp]
      have K := Lib.hid (H.out.set 2 (.int .i64 (r.left - 1)) { r with left := r.left - 1 } (fun j hj => by match j, hj with | 0, _ | 1, _ | 2, _ | 3, _ => rfl) rfl rfl rfl ⟨by show _ ≤ r.left - 1; omega, by show r.left - 1 < _; omega⟩)
      have hw : wrap64 (r.left - 1) = r.left - 1 := by unfold wrap64; omega
      rw [e1, e2]
      generalize r.left = lf at c2 h0 hp hw K
      clear e1 e2 hl0 hl1
      go_enter Try.func45, Try.ntmps45
      go_wp2
      go_ret
      exact ⟨rfl, K.out, Kr.same (Fr.setCell _ _ (fun _ => .inl rfl) _)⟩
    · have e1 : r.cnt = true := by simp [Rfd.cnt, h0]
      have e2 : r.counted = r := by simp [Rfd.counted, h0, hp]
      rw [e1, e2]
      generalize r.left = lf at c2 h0 hp
      clear e1 e2 hl0 hl1
      go_enter Try.func45, Try.ntmps45
      go_wp2
      go_ret
      exact ⟨rfl, H.out, Kr.refl _ _⟩

def Rfd.fuse (r : Rfd) (n : Int) : Rfd := if r.dead then r else { r with left := n }
theorem rfuse_any (h : IsR w rb lv sv r) (n : Int) (n0 : -9223372036854775808 ≤ n) (n1 : n < 9223372036854775808) : Calls Try.prog 32 #[ptr rb, .int .i64 n] w fun e w' => e = .returned (.tuple #[]) ∧ IsR w' rb lv sv (r.fuse n) ∧ Kr w (rfoot rb lv sv) w' (rfoot rb lv sv) := by
  have c2 := h.c2
  have c3 := h.c3
  have f2 := h.row.frozen 2
  have H := Lib.hid h
  clear h
  by_cases hd : r.dead = true
  · have e2 : r.fuse n = r := by simp [Rfd.fuse, hd]
    rw [e2]
    rw [hd] at c3
    go_enter Try.func32, Try.ntmps32
    go_wp2
    first | go_end0 | (simp only [Exit.inBlock, Exit.then]; refine bodyPost_ret (results_none rfl _ _ _) rfl ?_) | refine bodyPost_ret (results_none rfl _ _ _) rfl ?_
    exact ⟨rfl, H.out, Kr.refl _ _⟩
  · have hd' : r.dead = false := by simpa using hd
    have e2 : r.fuse n = { r with left := n } := by simp [Rfd.fuse, hd']
    have K := Lib.hid (H.out.set 2 (.int .i64 n) { r with left := n } (fun j hj => by match j, hj with | 0, _ | 1, _ | 2, _ | 3, _ => rfl) rfl rfl rfl ⟨n0, n1⟩)
    rw [e2]
    rw [hd'] at c3
    clear n0 n1
    go_enter Try.func32, Try.ntmps32
    go_wp2
    first | go_end0 | (simp only [Exit.inBlock, Exit.then]; refine bodyPost_ret (results_none rfl _ _ _) rfl ?_) | refine bodyPost_ret (results_none rfl _ _ _) rfl ?_
    exact ⟨rfl, K.out, Kr.same (Fr.setCell _ _ (fun _ => .inl rfl) _)⟩
end Go.Proofs.Ytpnnakjffcohoaa
