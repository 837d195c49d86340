import Derived.Test.YtcoaaldffnbdbaaL6
namespace Go.Proofs.Ytcoaaldffnbdbaa
open Go.RowKit Mem

/-- A value that is put: its kind, its number, its text. -/
structure Vl where
  k : Int
  n : Int
  s : ByteArray
def Vl.ok (v : Vl) : Prop := 0 ≤ v.k ∧ v.k ≤ 255 ∧ 0 ≤ v.n ∧ v.n ≤ 18446744073709551615 ∧ v.s.size ≤ maxLen
/-- The values that came in. -/
def Vals (w : World) (B : Nat) (A : Option Addr) (c : Nat) (vs : List Vl) : Prop :=
  vs.length ≤ c ∧ c ≤ maxLen ∧ (∀ v ∈ vs, v.ok) ∧ (0 < vs.length → ∃ b o, A = some ⟨b, o, none⟩ ∧ b < B ∧ ∀ i (h : i < vs.length),
    w.cell? ⟨b, o + i * 3, none⟩ = some (.int .u8 vs[i].k) ∧ w.cell? ⟨b, o + i * 3 + 1, none⟩ = some (.int .u64 vs[i].n) ∧ w.cell? ⟨b, o + i * 3 + 2, none⟩ = some (.string vs[i].s))
theorem vals_of {fs : Array Field} {w : World} {B : Nat} {A : Option Addr} {n c : Nat} {f : Nat → Nat → Value} (hu : Try.prog.underlying 46 = some (.struct fs)) (h : Structs Try.prog w B fs A n c f) : ∃ vs, vs.length = n ∧ Vals w B A c vs := by
  rw [Try.underlying46] at hu
  injection hu with hu
  injection hu with hu
  subst hu
  have key : ∀ i, i < n → ∃ v : Vl, (∀ b o, A = some ⟨b, o, none⟩ → w.cell? ⟨b, o + i * 3, none⟩ = some (.int .u8 v.k) ∧ w.cell? ⟨b, o + i * 3 + 1, none⟩ = some (.int .u64 v.n) ∧ w.cell? ⟨b, o + i * 3 + 2, none⟩ = some (.string v.s)) ∧ v.ok := by
    intro i hi
    obtain ⟨b, o, rfl, _, hc⟩ := h.2.2 (by omega)
    obtain ⟨h0, k0⟩ := hc i 0 _ hi rfl
    obtain ⟨h1, k1⟩ := hc i 1 _ hi rfl
    obtain ⟨h2, k2⟩ := hc i 2 _ hi rfl
    simp only [fieldOk] at k0
    simp only [fieldOk] at k1
    simp only [fieldOk] at k2
    obtain ⟨x, hx, wx⟩ := k0
    obtain ⟨y, hy, wy⟩ := k1
    obtain ⟨z, hz, wz⟩ := k2
    have bx := bounds_u8 wx
    have yb := bounds_u64 wy
    refine ⟨⟨x, y, z⟩, ?_, bx.1, bx.2, yb.1, yb.2, wz⟩
    intro b' o' e
    simp at e
    obtain ⟨rfl, rfl⟩ := e
    rw [hx] at h0
    rw [hy] at h1
    rw [hz] at h2
    exact ⟨h0, h1, h2⟩
  refine ⟨(List.range n).pmap (fun i hi => (key i hi).choose) (fun i hi => by simpa using hi), by simp, by simp; exact h.1, h.2.1, ?_, fun hp => ?_⟩
  · intro v hv
    simp only [List.mem_pmap, List.mem_range] at hv
    obtain ⟨i, hi, rfl⟩ := hv
    exact (key i hi).choose_spec.2
  · simp at hp
    obtain ⟨b, o, rfl, hb, _⟩ := h.2.2 hp
    refine ⟨b, o, rfl, hb, fun i hi => ?_⟩
    simp at hi
    simp only [List.getElem_pmap, List.getElem_range]
    exact (key i hi).choose_spec.1 b o rfl
theorem Vals.below {w w' : World} {B : Nat} {A : Option Addr} {c : Nat} {vs : List Vl} (h : Vals w B A c vs) (hb : Below B w w') : Vals w' B A c vs :=
  ⟨h.1, h.2.1, h.2.2.1, fun hp => by
    obtain ⟨b, o, e, hlt, hc⟩ := h.2.2.2 hp
    refine ⟨b, o, e, hlt, fun i hi => ?_⟩
    obtain ⟨h1, h2, h3⟩ := hc i hi
    exact ⟨(hb.cell (p := ⟨b, o + i * 3, none⟩) hlt).trans h1, (hb.cell (p := ⟨b, o + i * 3 + 1, none⟩) hlt).trans h2, (hb.cell (p := ⟨b, o + i * 3 + 2, none⟩) hlt).trans h3⟩⟩

/-- The bytes of a value, of values. -/
def Vl.enc (v : Vl) : List UInt8 := if v.k % 4 = 0 then be 1 (v.n % 256).toNat else if v.k % 4 = 3 then be 4 v.s.data.toList.length ++ v.s.data.toList else be 8 v.n.toNat
def encs (vs : List Vl) : List UInt8 := (vs.map Vl.enc).flatten
/-- What a take of it answers (is it that?), and leaves. -/
def Vl.same (v : Vl) (s : St) : Bool := if v.k % 4 = 0 then decide ((s.num 1 : Int) = v.n % 256) else if v.k % 4 = 3 then s.text == v.s.data.toList else decide ((s.num 8 : Int) = v.n)
def Vl.left (v : Vl) (s : St) : St := if v.k % 4 = 0 then s.after 1 else if v.k % 4 = 3 then s.textAfter else s.after 8
def sames : List Vl → St → Bool → Bool
  | [], _, b => b
  | v :: vs, s, b => sames vs (v.left s) (v.same s && b)
def lefts (vs : List Vl) (s : St) : St := vs.foldl (fun s v => v.left s) s

theorem num_app (a r : List UInt8) (n : Nat) (h : a.length = n) : (⟨a ++ r, false⟩ : St).num n = val a := by
  subst h; unfold St.num; rw [if_neg (by simp), if_neg (by simp), List.take_left]
theorem after_app (a r : List UInt8) (n : Nat) (h : a.length = n) : (⟨a ++ r, false⟩ : St).after n = ⟨r, false⟩ := by
  subst h; unfold St.after; rw [if_neg (by simp), if_neg (by simp), List.drop_left]
theorem bytes_app (a r : List UInt8) (n : Nat) (h : a.length = n) : (⟨a ++ r, false⟩ : St).bytes n = a := by
  subst h; unfold St.bytes; rw [if_neg (by simp), if_neg (by simp), List.take_left]
theorem text_app (a r : List UInt8) (h : a.length < 4294967296) : (⟨(be 4 a.length ++ a) ++ r, false⟩ : St).text = a ∧ (⟨(be 4 a.length ++ a) ++ r, false⟩ : St).textAfter = ⟨r, false⟩ := by
  unfold St.text St.textAfter
  rw [List.append_assoc, num_app _ _ 4 (length_be _ _), after_app _ _ 4 (length_be _ _), val_be, Nat.mod_eq_of_lt (by simpa using h)]
  exact ⟨bytes_app _ _ _ rfl, after_app _ _ _ rfl⟩
theorem same_app (v : Vl) (r : List UInt8) (hv : v.ok) (hs : v.s.data.toList.length < 4294967296) : v.same ⟨v.enc ++ r, false⟩ = true ∧ v.left ⟨v.enc ++ r, false⟩ = ⟨r, false⟩ := by
  obtain ⟨h1, h2, h3, h4, _⟩ := hv
  unfold Vl.same Vl.left Vl.enc
  by_cases k0 : v.k % 4 = 0
  · simp only [if_pos k0]
    rw [num_app _ _ 1 (length_be _ _), after_app _ _ 1 (length_be _ _), val_be, Nat.mod_eq_of_lt (by omega)]
    exact ⟨decide_eq_true (by omega), rfl⟩
  · by_cases k3 : v.k % 4 = 3
    · simp only [if_neg k0, if_pos k3]
      rw [(text_app _ r hs).1, (text_app _ r hs).2]
      exact ⟨by simp, rfl⟩
    · simp only [if_neg k0, if_neg k3]
      rw [num_app _ _ 8 (length_be _ _), after_app _ _ 8 (length_be _ _), val_be, Nat.mod_eq_of_lt (by omega)]
      exact ⟨decide_eq_true (by omega), rfl⟩
theorem sames_app (vs : List Vl) (r : List UInt8) (hv : ∀ v ∈ vs, v.ok ∧ v.s.data.toList.length < 4294967296) : sames vs ⟨encs vs ++ r, false⟩ true = true ∧ lefts vs ⟨encs vs ++ r, false⟩ = ⟨r, false⟩ := by
  induction vs with
  | nil => exact ⟨rfl, rfl⟩
  | cons v vs ih =>
    have h1 := hv v (by simp)
    have h2 := same_app v (encs vs ++ r) h1.1 h1.2
    have e : encs (v :: vs) ++ r = v.enc ++ (encs vs ++ r) := by simp [encs]
    have ih := ih fun u hu => hv u (by simp [hu])
    rw [e]
    exact ⟨by rw [sames, h2.1, h2.2]; exact ih.1, by show lefts vs (v.left _) = _; rw [h2.2]; exact ih.2⟩
theorem enc_ne (v : Vl) : v.enc ≠ [] := by
  unfold Vl.enc; split
  · simp [be]
  · split <;> simp [be]
theorem left_bad (v : Vl) (l : List UInt8) : (v.left ⟨l, true⟩).bad = true := by
  unfold Vl.left; split
  · simp [after_bad]
  · split
    · simp [textAfter_bad]
    · simp [after_bad]
theorem lefts_bad (vs : List Vl) : ∀ s : St, s.bad = true → (lefts vs s).bad = true := by
  induction vs with
  | nil => exact fun s h => h
  | cons v vs ih => rintro ⟨l, b⟩ h; cases h; exact ih _ (left_bad v l)
theorem after_short (l : List UInt8) (n : Nat) (h : l.length < n) : ((⟨l, false⟩ : St).after n).bad = true := by simp [St.after, h]
/-- Cut by a byte the last value is not to be had. -/
theorem left_cut (v : Vl) (hs : v.s.data.toList.length < 4294967296) : (v.left ⟨v.enc.dropLast, false⟩).bad = true := by
  unfold Vl.left Vl.enc
  by_cases k0 : v.k % 4 = 0
  · simp only [if_pos k0]; exact after_short _ _ (by simp [length_be])
  · by_cases k3 : v.k % 4 = 3
    · simp only [if_neg k0, if_pos k3]
      generalize v.s.data.toList = a at hs ⊢
      by_cases ha : a = []
      · subst ha
        unfold St.textAfter
        have h3 := after_short ((be 4 ([] : List UInt8).length ++ []).dropLast) 4 (by simp [length_be])
        generalize (⟨(be 4 ([] : List UInt8).length ++ []).dropLast, false⟩ : St) = s at h3 ⊢
        generalize s.num 4 = m
        generalize s.after 4 = t at h3 ⊢
        obtain ⟨l, b⟩ := t
        cases h3
        simp [after_bad]
      · rw [List.dropLast_append_of_ne_nil ha]
        unfold St.textAfter
        rw [num_app _ _ 4 (length_be _ _), after_app _ _ 4 (length_be _ _), val_be, Nat.mod_eq_of_lt (by simpa using hs)]
        exact after_short _ _ (by have := List.length_pos_iff.2 ha; simp; omega)
    · simp only [if_neg k0, if_neg k3]; exact after_short _ _ (by simp [length_be])
theorem lefts_cut (vs : List Vl) (hne : vs ≠ []) (hv : ∀ v ∈ vs, v.ok ∧ v.s.data.toList.length < 4294967296) : (lefts vs ⟨(encs vs).dropLast, false⟩).bad = true := by
  induction vs with
  | nil => exact absurd rfl hne
  | cons v vs ih =>
    have h1 := hv v (by simp)
    by_cases hvs : vs = []
    · subst hvs
      have e : encs [v] = v.enc := by simp [encs]
      rw [e]; exact left_cut v h1.2
    · have hne2 : encs vs ≠ [] := by
        match vs, hvs with
        | u :: us, _ => simp [encs]; intro h; exact absurd h (enc_ne u)
      have e : (encs (v :: vs)).dropLast = v.enc ++ (encs vs).dropLast := by
        show (v.enc ++ encs vs).dropLast = _
        rw [List.dropLast_append_of_ne_nil hne2]
      rw [e]
      show (lefts vs (v.left _)).bad = true
      rw [(same_app v _ h1.1 h1.2).2]
      exact ih hvs fun u hu => hv u (by simp [hu])
theorem encs_take (vs : List Vl) (k : Nat) (hk : k < vs.length) : encs (vs.take (k + 1)) = encs (vs.take k) ++ vs[k].enc := by
  unfold encs; rw [List.take_succ_eq_append_getElem hk, List.map_append, List.flatten_append]; simp only [List.map_cons, List.map_nil, List.flatten_cons, List.flatten_nil, List.append_nil]
theorem lefts_take (vs : List Vl) (s : St) (k : Nat) (hk : k < vs.length) : lefts (vs.take (k + 1)) s = vs[k].left (lefts (vs.take k) s) := by
  unfold lefts; rw [List.take_succ_eq_append_getElem hk, List.foldl_append]; rfl
theorem sames_snoc (vs : List Vl) : ∀ (s : St) (b : Bool) (v : Vl), sames (vs ++ [v]) s b = (v.same (lefts vs s) && sames vs s b) := by
  induction vs with
  | nil => intro s b v; rfl
  | cons u us ih => intro s b v; exact ih _ _ v
theorem sames_take (vs : List Vl) (s : St) (b : Bool) (k : Nat) (hk : k < vs.length) : sames (vs.take (k + 1)) s b = (vs[k].same (lefts (vs.take k) s) && sames (vs.take k) s b) := by
  rw [List.take_succ_eq_append_getElem hk, sames_snoc]
end Go.Proofs.Ytcoaaldffnbdbaa
