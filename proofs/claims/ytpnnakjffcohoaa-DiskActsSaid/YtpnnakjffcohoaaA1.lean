import Derived.Test.YtpnnakjffcohoaaL4
import Derived.Test.YtpnnakjffcohoaaOpen
namespace Go.Proofs.Ytpnnakjffcohoaa
set_option linter.unusedVariables false
set_option linter.unusedSimpArgs false
open Go.RowKit Mem Go.ChangeShapes Go.WideShapes Go.Deep
section
variable {H : Type} {enc : TypeId × Value → H} {P : Program} {w : World} {base : Nat} {spare : Nat → Bool} {held : Bool}
theorem fields_of_trod {t e : TypeId} {fs : Array Field} {A : Option Addr} {len cap : Nat} {d : DataW H} {p : List MemPlace} (ht : P.underlying t = some (.slice e)) (he : P.underlying e = some (.struct fs)) (hone : oneCellFields P fs = true) (hC : P.cellsOf e = fs.size) (h0 : 0 < fs.size)
    (h : DataW.Trod enc P w base spare held t (.slice A len cap) d p) : ∃ f : Nat → Nat → Value, len ≤ cap ∧ cap ≤ maxLen ∧ (0 < len → ∃ b o, A = some ⟨b, o, none⟩ ∧ b < w.heap.size ∧ ∀ i j fld, i < len → fs[j]? = some fld → w.cell? ⟨b, o + (i * fs.size + j), none⟩ = some (f i j) ∧ ∃ y x, DataW.trod enc P w base spare held y fld.type [f i j] = some x) := by
  obtain ⟨fuel, hf⟩ := h
  rcases open_slice ht hf with ⟨hcs, _⟩ | ⟨a, len', cap', m, n, D, Pl, hcs, _, hl, hm, hmm, _, hi⟩
  · simp [Value.cells] at hcs
    obtain ⟨rfl, rfl, rfl⟩ := hcs
    exact ⟨fun _ _ => .tuple #[], by omega, by unfold maxLen; omega, fun h => by omega⟩
  · simp [Value.cells] at hcs
    obtain ⟨rfl, rfl, rfl⟩ := hcs
    refine ⟨fun i j => (w.cell? (a.add (i * fs.size + j))).getD (.tuple #[]), hl, hm, fun hp => ?_⟩
    have hle : len ≤ m := by rw [hmm]; split <;> omega
    have key : ∀ i j fld, i < len → fs[j]? = some fld → ∃ v y, w.cell? (a.add (i * fs.size + j)) = some v ∧ DataW.trod enc P w base spare held y fld.type [v] ≠ none := by
      intro i j fld him hj
      obtain ⟨cs', hc, ht'⟩ := hi i (by omega)
      rw [hC] at hc
      obtain ⟨ys, n', _, _, hlen, hyl, hfld⟩ := DataW.trod_struct he ht'
      obtain ⟨_, hcl, hat⟩ := World.cells?_some hc
      obtain ⟨ho, hk⟩ := hone_of hone j fld hj
      have hjl : j < fs.size := (Array.getElem?_eq_some_iff.1 hj).1
      have hcell := hat j hjl
      have h1 := hfld j fld hj
      rw [ho, hk] at h1
      have hone' : (cs'.drop j).take 1 = [cs'[j]'(by omega)] := by
        rw [List.drop_eq_getElem_cons (by omega)]
        rfl
      rw [hone'] at h1
      refine ⟨cs'[j]'(by omega), n', ?_, ?_⟩
      · rw [← Go.Deep.add_add, hcell, List.getElem?_eq_getElem (by omega)]
      · rw [h1, List.getElem?_eq_getElem (by omega)]; simp
    obtain ⟨b, o, sp⟩ := a
    obtain ⟨v0, _, hv0, _⟩ := key 0 0 fs[0] hp (Array.getElem?_eq_getElem h0)
    have hsp : sp = none := by simpa [Addr.add] using World.cell?_spot hv0
    subst hsp
    refine ⟨b, o, rfl, by rw [Mem.add_plain] at hv0; exact block_lt hv0, fun i j fld him hj => ?_⟩
    obtain ⟨v, y, hv, ht'⟩ := key i j fld him hj
    simp only [hv, Option.getD_some]
    rw [Mem.add_plain] at hv
    refine ⟨hv, ?_⟩
    cases hx : DataW.trod enc P w base spare held y fld.type [v] with
    | none => exact absurd hx ht'
    | some x => exact ⟨y, x, hx⟩

/-- A []int that came in, as numbers. -/
theorem rdi_of_cells {t e : TypeId} {v : Value} {n : Nat} {x : DataW H × List MemPlace} (ht : P.underlying t = some (.slice e)) (he : P.underlying e = some (.int .i64)) (hc : P.cellsOf e = 1)
    (h : DataW.trod enc P w base spare held n t [v] = some x) : ∃ A len cap, v = .slice A len cap ∧ ∃ l : List Int, l.length = len ∧ RdI w w.heap.size A cap l := by
  rcases open_ints ht he hc h with ⟨hcs, _⟩ | ⟨a, len', cap', zs, hcs, _, hl, hm, hz, _, hcell, hwz⟩
  · simp at hcs
    exact ⟨none, 0, 0, hcs, [], rfl, Nat.le_refl _, Nat.zero_le _, fun _ => rfl, fun h => by simp at h⟩
  · simp at hcs
    have hzl : len' ≤ zs.length := by rw [hz]; split <;> omega
    refine ⟨some a, len', cap', hcs, zs.take len', by simp; omega, by simp; omega, hm, fun e => (by cases e), fun hp => ?_⟩
    simp at hp
    have h0 := hcell 0 (by omega)
    obtain ⟨b, o, sp⟩ := a
    have hsp : sp = none := by simpa [Addr.add] using World.cell?_spot h0
    subst hsp
    refine ⟨b, o, rfl, by rw [Mem.add_plain] at h0; exact block_lt h0, fun i hi => ?_⟩
    simp at hi
    have hci := hcell i (by omega)
    rw [Mem.add_plain] at hci
    rw [hci, List.getElem_take]
    rw [List.getD_eq_getElem?_getD, List.getElem?_eq_getElem (by omega)]; rfl
theorem rdi_of_trod {t e : TypeId} {A : Option Addr} {len cap : Nat} {d : DataW H} {p : List MemPlace} (ht : P.underlying t = some (.slice e)) (he : P.underlying e = some (.int .i64)) (hc : P.cellsOf e = 1)
    (h : DataW.Trod enc P w base spare held t (.slice A len cap) d p) : ∃ l : List Int, l.length = len ∧ RdI w w.heap.size A cap l := by
  obtain ⟨fuel, hf⟩ := h
  have hf' : DataW.trod enc P w base spare held fuel t [.slice A len cap] = some (d, p) := hf
  obtain ⟨A', len', cap', e, l, h1, h2⟩ := rdi_of_cells ht he hc hf'
  injection e with e1 e2 e3
  subst e1 e2 e3
  exact ⟨l, h1, h2⟩
end

/-- One act, as data. -/
structure ActD where
  dw : Nat
  at' : Int
  b : Nat
  c : Nat
  s : Nat
  FA : Option Addr
  fn : Nat
  fc : Nat
  fates : List Int
instance : Inhabited ActD := ⟨⟨0, 0, 0, 0, 0, none, 0, 0, []⟩⟩
/-- Act i of a row that begins at block b, place o. -/
structure ActAt (w : World) (B b o i : Nat) (a : ActD) : Prop where
  c0 : w.cell? ⟨b, o + i * 6, none⟩ = some (.int .u8 (a.dw : Int))
  c1 : w.cell? ⟨b, o + i * 6 + 1, none⟩ = some (.int .i64 a.at')
  c2 : w.cell? ⟨b, o + i * 6 + 2, none⟩ = some (.int .u8 (a.b : Int))
  c3 : w.cell? ⟨b, o + i * 6 + 3, none⟩ = some (.int .u8 (a.c : Int))
  c4 : w.cell? ⟨b, o + i * 6 + 4, none⟩ = some (.int .u8 (a.s : Int))
  c5 : w.cell? ⟨b, o + i * 6 + 5, none⟩ = some (.slice a.FA a.fn a.fc)
  d : a.dw < 256
  l : -9223372036854775808 ≤ a.at'
  m : a.at' < 9223372036854775808
  bb : a.b < 256
  cb : a.c < 256
  sb : a.s < 256
  fl : a.fates.length = a.fn
  fr : RdI w B a.FA a.fc a.fates
/-- Acts that came in. -/
def Acts (w : World) (B : Nat) (A : Option Addr) (len cap : Nat) (f : Nat → ActD) : Prop :=
  len ≤ cap ∧ cap ≤ maxLen ∧ (0 < len → ∃ b o, A = some ⟨b, o, none⟩ ∧ b < B ∧ ∀ i, i < len → ActAt w B b o i (f i))
theorem ActAt.below {w w' : World} {B b o i : Nat} {a : ActD} (h : ActAt w B b o i a) (hb : Below B w w') (hlt : b < B) : ActAt w' B b o i a :=
  { h with
    c0 := (hb.cell (p := ⟨b, o + i * 6, none⟩) hlt).trans h.c0, c1 := (hb.cell (p := ⟨b, o + i * 6 + 1, none⟩) hlt).trans h.c1, c2 := (hb.cell (p := ⟨b, o + i * 6 + 2, none⟩) hlt).trans h.c2
    c3 := (hb.cell (p := ⟨b, o + i * 6 + 3, none⟩) hlt).trans h.c3, c4 := (hb.cell (p := ⟨b, o + i * 6 + 4, none⟩) hlt).trans h.c4, c5 := (hb.cell (p := ⟨b, o + i * 6 + 5, none⟩) hlt).trans h.c5
    fr := h.fr.below hb }
theorem Acts.below {w w' : World} {B : Nat} {A : Option Addr} {len cap : Nat} {f : Nat → ActD} (h : Acts w B A len cap f) (hb : Below B w w') : Acts w' B A len cap f :=
  ⟨h.1, h.2.1, fun hp => by
    obtain ⟨b, o, e, hlt, hc⟩ := h.2.2 hp
    exact ⟨b, o, e, hlt, fun i hi => (hc i hi).below hb hlt⟩⟩

theorem act_fields : ∃ fs : Array Field, Try.prog.underlying 35 = some (.struct fs) ∧ oneCellFields Try.prog fs = true ∧ fs.size = 6 ∧ fs.map (fun f => f.type) = #[5, 3, 5, 5, 5, 33] :=
  ⟨_, Try.underlying35, by kernel_rfl, by kernel_rfl, by kernel_rfl⟩

theorem acts_of_trod {H : Type} {enc : TypeId × Value → H} {w : World} {base : Nat} {spare : Nat → Bool} {held : Bool} {A : Option Addr} {len cap : Nat} {d : DataW H} {p : List MemPlace}
    (h : DataW.Trod enc Try.prog w base spare held 22 (.slice A len cap) d p) : ∃ f : Nat → ActD, Acts w w.heap.size A len cap f := by
  obtain ⟨fs, hu, hone, hsz, hty⟩ := act_fields
  obtain ⟨f, h1, h2, h3⟩ := fields_of_trod (fs := fs) Try.underlying22 hu hone (by rw [hsz]; kernel_rfl) (by omega) h
  have hfld : ∀ j t, (#[5, 3, 5, 5, 5, 33] : Array TypeId)[j]? = some t → ∃ fld : Field, fs[j]? = some fld ∧ fld.type = t := fun j t e => by
    rw [← hty, Array.getElem?_map] at e
    obtain ⟨fld, e1, e2⟩ := Option.map_eq_some_iff.1 e
    exact ⟨fld, e1, e2⟩
  by_cases hp : 0 < len
  · obtain ⟨b, o, e, hlt, hc⟩ := h3 hp
    have hex : ∀ i, i < len → ∃ a : ActD, ActAt w w.heap.size b o i a := fun i hi => by
      have hu8 : ∀ j, (#[5, 3, 5, 5, 5, 33] : Array TypeId)[j]? = some 5 → ∃ n : Nat, n < 256 ∧ w.cell? ⟨b, o + i * 6 + j, none⟩ = some (.int .u8 (n : Int)) := fun j hj => by
        obtain ⟨fld, e1, e2⟩ := hfld j 5 hj
        obtain ⟨g1, y, x, g2⟩ := hc i j fld hi e1
        rw [e2] at g2
        obtain ⟨z, g3, _, g4⟩ := DataW.trod_int Try.underlying5 g2
        simp at g3
        have := bounds_u8 g4
        rw [hsz, g3, ← Nat.add_assoc] at g1
        refine ⟨z.toNat, by omega, ?_⟩
        rw [g1, Int.toNat_of_nonneg this.1]
      obtain ⟨n0, l0, c0⟩ := hu8 0 (by decide)
      obtain ⟨n2, l2, c2⟩ := hu8 2 (by decide)
      obtain ⟨n3, l3, c3⟩ := hu8 3 (by decide)
      obtain ⟨n4, l4, c4⟩ := hu8 4 (by decide)
      obtain ⟨fld1, e1, e1'⟩ := hfld 1 3 (by decide)
      obtain ⟨g1, y1, x1, g1'⟩ := hc i 1 fld1 hi e1
      rw [e1'] at g1'
      obtain ⟨z, g3, _, g4⟩ := DataW.trod_int Try.underlying3 g1'
      simp at g3
      have hz := bounds_i64 g4
      rw [hsz, g3, ← Nat.add_assoc] at g1
      obtain ⟨fld5, e5, e5'⟩ := hfld 5 33 (by decide)
      obtain ⟨g5, y5, x5, g5'⟩ := hc i 5 fld5 hi e5
      rw [e5'] at g5'
      obtain ⟨FA, fn, fc, q1, l, q2, q3⟩ := rdi_of_cells Try.underlying33 Try.underlying3 (by kernel_rfl) g5'
      rw [hsz, q1, ← Nat.add_assoc] at g5
      exact ⟨⟨n0, z, n2, n3, n4, FA, fn, fc, l⟩, c0, g1, c2, c3, c4, g5, l0, hz.1, by have := hz.2; show z < _; omega, l2, l3, l4, q2, q3⟩
    refine ⟨fun i => if hi : i < len then Classical.choose (hex i hi) else default, h1, h2, fun _ => ⟨b, o, e, hlt, fun i hi => ?_⟩⟩
    show ActAt _ _ _ _ _ (if hi : i < len then Classical.choose (hex i hi) else default)
    rw [dif_pos hi]
    exact Classical.choose_spec (hex i hi)
  · exact ⟨fun _ => default, h1, h2, fun hp' => absurd hp' hp⟩
end Go.Proofs.Ytpnnakjffcohoaa
