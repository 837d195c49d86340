import Derived.Test.YtpnnakjffcohoaaR5
import Derived.Test.YtpnnakjffcohoaaS1
import Derived.Test.YtpnnakjffcohoaaDC
import Derived.Deep.DeepCutAuto
namespace Go.Proofs.Ytpnnakjffcohoaa
set_option linter.unusedVariables false
set_option linter.unusedSimpArgs false
open Go.RowKit Mem Go.ChangeMaps
variable {w : World} {rb : Nat} {lv sv : Value} {r : Rfd}

theorem own_set {w : World} {b g n cap p : Nat} {e : TypeId} {xs : List Value} (h : w.ownsRow b e 1 (.slice (some ⟨g, 0, none⟩) n cap) n xs) (hp : p < n) (v : Value) :
    (w.setCell ⟨g, p, none⟩ v).ownsRow b e 1 (.slice (some ⟨g, 0, none⟩) n cap) n (xs.set p v) := by
  refine ⟨by rw [List.length_set]; exact h.1, ?_⟩
  rcases h.2 with ⟨e1, _⟩ | ⟨g', cap', cur, e1, hb, hh, h1, h2, h3, h4⟩
  · cases e1
  · injection e1 with e2 _ e3
    injection e2 with e2
    injection e2 with e2
    subst e2 e3
    refine .inr ⟨g, cap, cur.setIfInBounds p v, rfl, hb, ?_, h1, h2, by simpa using h3, ?_⟩
    · simp [World.setCell, Array.getElem?_modify, hh]
    · rw [Array.toList_setIfInBounds, ← h4, List.take_set]

theorem str_app (a b : List UInt8) : str a ++ str b = str (a ++ b) := by
  apply ByteArray.ext
  simp [str]
theorem str_cut (l : List UInt8) (q : Nat) (hl : l.length = 4096) (hq : q < 8) : (str l).extract (512 * q) (512 * q + 512) = str (sector l q) := by
  apply ByteArray.ext
  apply Array.toList_inj.1
  simp [str, sector, ByteArray.extract, ByteArray.copySlice]
theorem run_scut (l : List UInt8) (p q : Nat) (hl : l.length = 4096) (hq : q < 8) (hp : p = 512 * q) (W : World) : (Instr.sliceAt 9 (.string (str l)) (some (.int .i64 (p : Int))) (some (.int .i64 ((p : Int) + 512))) none).run Try.prog W = .ok (.string (str (sector l q))) W := by
  have f0 : (str l).size = 4096 := by rw [str_size, hl]
  have f1 : ((p : Int) + 512).toNat = p + 512 := by omega
  have f2 : (p : Int) + 512 ≤ 4096 := by omega
  have f4 : (0 : Int) ≤ (p : Int) + 512 := by omega
  have f6 : (p : Int) ≤ (p : Int) + 512 := by omega
  have f7 : (str l).extract p (p + 512) = str (sector l q) := by rw [hp]; exact str_cut l q hl hq
  clear hp hq hl
  go_simp
theorem torn_take (f : Int) (a b : List UInt8) (ha : a.length = 4096) (hb : b.length = 4096) (q : Nat) (hq : q < 8) :
    (torn f a b).take (512 * (q + 1)) = (torn f a b).take (512 * q) ++ (if bit f q = true then sector b q else sector a q) := by
  rw [← torn_sector f a b ha hb q hq, sector, show 512 * (q + 1) = 512 * q + 512 by omega, List.take_add]

/-- The first k pages that were written, ended. -/
def Rfd.endK (r : Rfd) (fs : List Int) (ms : Int) : Nat → Rfd
  | 0 => r
  | k + 1 =>
    { r.endK fs ms k with lasts := fun j => if j = (firsts r.since).getD k 0 then torn (fs.getD k ms) ((r.endK fs ms k).lasts ((firsts r.since).getD k 0)) ((r.endK fs ms k).page ((firsts r.since).getD k 0)) else (r.endK fs ms k).lasts j }
def Rfd.ended (r : Rfd) (fs : List Int) (ms : Int) : Rfd := { r.endK fs ms (firsts r.since).length with since := [] }
theorem endK_same (r : Rfd) (fs : List Int) (ms : Int) : ∀ k, (r.endK fs ms k).n = r.n ∧ (r.endK fs ms k).since = r.since ∧ (r.endK fs ms k).left = r.left ∧ (r.endK fs ms k).dead = r.dead
  | 0 => ⟨rfl, rfl, rfl, rfl⟩
  | k + 1 => endK_same r fs ms k

/-- What lasts of a page is written. -/
theorem IsR.setLast {gl cl : Nat} (h : IsR w rb (.slice (some ⟨gl, 0, none⟩) r.n cl) sv r) (p : Nat) (hp : p < r.n) (l : List UInt8) (hl : l.length = 4096) :
    IsR (w.setCell ⟨gl, p, none⟩ (.string (str l))) rb (.slice (some ⟨gl, 0, none⟩) r.n cl) sv { r with lasts := fun j => if j = p then l else r.lasts j } := by
  have ho : ∀ k, k ≠ gl → (w.setCell ⟨gl, p, none⟩ (.string (str l))).heap[k]? = w.heap[k]? := fun k hk => Below.heap_setCell _ _ _ _ hk
  have h1 := own_set h.lasts hp (.string (str l))
  refine ⟨(h.row.of_block (ho _ (fun e => h.ne_l (by rw [e]; rfl)))).congr fun j hj => by match j, hj with | 0, _ | 1, _ | 2, _ | 3, _ => rfl, ?_, owns_of_block h.since fun k e => ho k (fun e2 => h.ne_ls gl rfl (e2 ▸ e)), h.n1, h.n2, h.sn, fun i hi => ?_, h.l0, h.l1⟩
  · have e : ((List.range r.n).map fun i => Value.string (str (r.lasts i))).set p (.string (str l)) = (List.range r.n).map fun i => .string (str (if i = p then l else r.lasts i)) := by
      apply List.ext_getElem
      · simp
      · intro i h2 h3
        rw [List.getElem_set]
        by_cases e : p = i
        · subst e; simp
        · rw [if_neg e]; simp [Ne.symm e]
    rw [← e]; exact h1
  · show (if i = p then l else r.lasts i).length = 4096
    split
    · exact hl
    · exact h.ln i hi

theorem snoc_ind {α : Type} {Q : List α → Prop} (h0 : Q []) (h1 : ∀ l a, Q l → Q (l ++ [a])) (l : List α) : Q l := by
  rw [← List.reverse_reverse l]
  induction l.reverse with
  | nil => exact h0
  | cons a l ih => rw [List.reverse_cons]; exact h1 _ _ ih
theorem rpage_len (h : IsR w rb lv sv r) (i : Nat) (hi : i < r.n) : (r.page i).length = 4096 := by
  unfold Rfd.page
  have key : ∀ l : List (Nat × List UInt8), (∀ p ∈ l, p.2.length = 4096) → ∀ x, waitOf l i = some x → x.length = 4096 := by
    refine snoc_ind (fun _ x e => by cases e) (fun l p ih hl x e => ?_)
    rw [waitOf_snoc] at e
    split at e
    · injection e with e; subst e; exact hl p (by simp)
    · exact ih (fun q hq => hl q (by simp [hq])) x e
  rcases hW : waitOf r.since i with _ | x
  · exact h.ln i hi
  · exact key _ (fun p hp => (h.sn p hp).2) x hW
theorem firsts_mem (l : List (Nat × List UInt8)) (i : Nat) : i ∈ firsts l ↔ ∃ p ∈ l, p.1 = i := by
  revert l
  refine snoc_ind (by simp [firsts]) (fun l p ih => ?_)
  rw [firsts_snoc]
  by_cases h : p.1 ∈ firsts l
  · rw [if_pos h, ih]
    constructor
    · rintro ⟨q, hq, e⟩; exact ⟨q, by simp [hq], e⟩
    · rintro ⟨q, hq, e⟩
      rcases List.mem_append.1 hq with hq | hq
      · exact ⟨q, hq, e⟩
      · simp at hq
        rw [← ih, ← e, hq]; exact h
  · rw [if_neg h, List.mem_append, ih, List.mem_singleton]
    constructor
    · rintro (⟨q, hq, e⟩ | e)
      · exact ⟨q, by simp [hq], e⟩
      · exact ⟨p, by simp, e.symm⟩
    · rintro ⟨q, hq, e⟩
      rcases List.mem_append.1 hq with hq | hq
      · exact .inl ⟨q, hq, e⟩
      · simp at hq; rw [hq] at e; exact .inr e.symm
theorem IsR.clearS (h : IsR w rb lv sv r) : IsR (w.setCell ⟨rb, 1, none⟩ (.slice none 0 0)) rb lv (.slice none 0 0) { r with since := [] } :=
  ⟨(h.row.set 1 _).congr fun j hj => by match j, hj with | 0, _ | 1, _ | 2, _ | 3, _ => rfl, owns_of_block h.lasts fun k e => Below.heap_setCell _ _ _ _ (fun e2 => h.ne_l (e.trans (congrArg some e2))), World.ownsRow_nil _ _ _ _, h.n1, h.n2, fun p hp => by simp at hp, h.ln, h.l0, h.l1⟩

set_option maxRecDepth 20000 in
set_option maxHeartbeats 1000000 in
theorem rend_any (h : IsR w rb lv sv r) (hs : r.since.length ≤ 1000000) (A : Option Addr) (n c : Nat) (fs : List Int) (ms : Int) (hr : RdI w w.heap.size A c fs) (hn : fs.length = n) (hA : 0 < fs.length → ∀ a, A = some a → ¬ rfoot rb lv sv a.block) :
    Calls Try.prog 46 #[ptr rb, .slice A n c, .int .i64 ms] w fun e w' => e = .returned (.tuple #[]) ∧ IsR w' rb lv (.slice none 0 0) (r.ended fs ms) ∧ Kr w (rfoot rb lv sv) w' (rfoot rb lv (.slice none 0 0)) := by
  have H := Lib.hid h
  have HS := Lib.hid hs
  have HR := Lib.hid hr
  have HN := Lib.hid hn
  have HA := Lib.hid hA
  clear h hs hr hn hA
  go_enter Try.func46, Try.ntmps46
  go_wp2_with fail
  refine (rwaits_any H.out HS.out).mono ?_
  rintro e w1 ⟨v, rfl, o1, b1⟩
  obtain ⟨Aw, cw, rfl, rw', _, _⟩ := o1.form
  obtain ⟨wl, hwl⟩ : ∃ wl, wl = firsts r.since := ⟨_, rfl⟩
  rw [← hwl] at rw' o1 ⊢
  have H1 := Lib.hid (H.out.below b1)
  have RW := Lib.hid rw'
  have OW := Lib.hid o1
  have B1 := Lib.hid b1
  have HWL := Lib.hid hwl
  rw [ints_len]
  have hlen : wl.length ≤ 1000000 := by rw [hwl]; exact Nat.le_trans (firsts_len _) HS.out
  clear o1 b1 rw' hwl
  go_wp2_with fail
  go_loopw [7] (fun v wr => ∃ k : Nat, k ≤ wl.length ∧ v = .int .i64 k ∧ Hid (IsR wr rb lv sv (r.endK fs ms k) ∧ Kr w1 (rfoot rb lv sv) wr (rfoot rb lv sv))) (fun v _ => wl.length - (intOf v).toNat)
  case atStart => exact ⟨0, Nat.zero_le _, rfl, H1.out, Kr.refl _ _⟩
  case round =>
    obtain ⟨k, hk, rfl, hX⟩ := hrel
    obtain ⟨hi, hkr⟩ := hX.out
    have HI := Lib.hid hi
    have KI := Lib.hid hkr
    clear hX hi hkr
    by_cases hlt : k < wl.length
    · have hb1 : ∀ j, j < w.heap.size → ¬ rfoot rb lv sv j → wr.heap[j]? = w.heap[j]? := fun j hj hf => (KI.out.fr.block j (Nat.lt_of_lt_of_le hj B1.out.size) hf).trans (B1.out.block j hj)
      have hp : wl[k] < r.n := by
        have h1 : wl[k] ∈ firsts r.since := by rw [← HWL.out]; exact List.getElem_mem hlt
        obtain ⟨q, hq, e⟩ := (firsts_mem _ _).1 h1
        rw [← e]; exact (H.out.sn q hq).1
      obtain ⟨bw, ow, rfl, hbw, hcw⟩ := RW.out.2.2.2 (by rw [ints_len]; omega)
      have hlow : w.heap.size ≤ bw := ((World.ownsRow.lt OW.out) bw rfl).1
      have cw' := hcw k (by rw [ints_len]; exact hlt)
      rw [show (ints wl)[k]'(by rw [ints_len]; exact hlt) = (wl[k] : Int) by simp [ints]] at cw'
      have cwr : wr.cell? ⟨bw, ow + k, none⟩ = some (.int .i64 (wl[k] : Int)) := (World.cell?_of_block (w := w1) (a := ⟨bw, ow + k, none⟩) (KI.out.fr.block bw hbw (fun hf => by have := H.out.lt bw hf; omega))).trans cw'
      have c0 := HI.out.c0
      obtain ⟨gl, cl, hlv, hlc⟩ := HI.out.lform
      rw [(endK_same r fs ms k).1] at hlv hlc
      rw [hlv] at c0
      have HLC := Lib.hid (hlc wl[k] hp)
      have HE := Lib.hid (show r.endK fs ms (k + 1) = { r.endK fs ms k with lasts := fun j => if j = wl[k] then torn (fs.getD k ms) ((r.endK fs ms k).lasts wl[k]) ((r.endK fs ms k).page wl[k]) else (r.endK fs ms k).lasts j } by
        have e0 : (firsts r.since).getD k 0 = wl[k] := by rw [← HWL.out, List.getD_eq_getElem?_getD, List.getElem?_eq_getElem hlt]; rfl
        show ({ r.endK fs ms k with lasts := _ } : Rfd) = _
        rw [e0])
      have HP := Lib.hid hp
      have HLV := Lib.hid hlv
      have hki : (k : Int) < (wl.length : Int) := by omega
      have hrn : r.n ≤ 4096 := H.out.n2
      have hpi : ((wl[k] : Nat) : Int) < (r.n : Int) := by omega
      obtain ⟨pp, hpp⟩ : ∃ pp, pp = wl[k] := ⟨_, rfl⟩
      rw [← hpp] at cwr HLC HE HP hpi
      have CF := Lib.hid (show k < n → ∃ b o, A = some ⟨b, o, none⟩ ∧ wr.cell? ⟨b, o + k, none⟩ = some (.int .i64 (fs.getD k ms)) from fun hkn => by
        have hkf : k < fs.length := by have := HN.out; omega
        obtain ⟨b, o, e, hb, hc⟩ := HR.out.2.2.2 (by omega)
        refine ⟨b, o, e, ?_⟩
        rw [List.getD_eq_getElem?_getD, List.getElem?_eq_getElem hkf]
        exact (World.cell?_of_block (w := w) (a := ⟨b, o + k, none⟩) (hb1 b hb (HA.out (by omega) _ e))).trans (hc k hkf))
      have HGD := Lib.hid (show ¬ k < n → fs.getD k ms = ms from fun hkn => by rw [List.getD_eq_getElem?_getD, List.getElem?_eq_none (by have := HN.out; omega)]; rfl)
      obtain ⟨ft, hft⟩ : ∃ ft, ft = fs.getD k ms := ⟨_, rfl⟩
      rw [← hft] at HE CF HGD
      clear hb1 hp hcw cw' hlv hlc hpp hft hlow
      go_upto_if 25 with fail
      go_cut [8] (fun v wz => v = .int .i64 ft ∧ wr = wz)
      case first =>
        by_cases hkn : k < n
        · obtain ⟨b, o, rfl, hc⟩ := CF.out hkn
          have hkni : (k : Int) < (n : Int) := by omega
          go_wp2_with fail
          go_meet
          case rel => exact ⟨rfl, rfl⟩
        · have hg := HGD.out hkn
          have hkni : ¬ (k : Int) < (n : Int) := by omega
          subst hg
          go_wp2_with fail
          go_meet
          case rel => exact ⟨rfl, rfl⟩
      case rest =>
        obtain ⟨rfl, rfl⟩ := hcut
        have ES := endK_same r fs ms k
        generalize r.endK fs ms k = rk at HI HLC HE HLV ES
        obtain ⟨es1, es2, es3, es4⟩ := ES
        have QT := Lib.hid (fun (q : Nat) => (rat_any (HI.out.keep (w' := wr.drewN q) fun _ _ => rfl) pp (by rw [es1]; exact HP.out) (by rw [es2]; exact HS.out)).mono fun e w' (hh : _ ∧ _) => (⟨hh.1, hh.2.symm⟩ : e = .returned (.string (str (rk.page pp))) ∧ w' = wr.drewN q))
        have PL := Lib.hid (rpage_len HI.out pp (by rw [es1]; exact HP.out))
        have LL := Lib.hid (HI.out.ln pp (by rw [es1]; exact HP.out))
        have RN := Lib.hid es1
        have hlc := HLC.out
        obtain ⟨was, hwas⟩ : ∃ was, was = rk.lasts pp := ⟨_, rfl⟩
        obtain ⟨now, hnow⟩ : ∃ now, now = rk.page pp := ⟨_, rfl⟩
        rw [← hwas] at hlc HE LL
        rw [← hnow] at HE QT PL
        obtain ⟨s1, hs1⟩ : ∃ s1, s1 = str was := ⟨_, rfl⟩
        obtain ⟨s2, hs2⟩ : ∃ s2, s2 = str now := ⟨_, rfl⟩
        rw [← hs1] at hlc
        rw [← hs2] at QT
        have H1S := Lib.hid hs1
        have H2S := Lib.hid hs2
        clear es1 es2 es3 es4 hwas hnow hs1 hs2 HLC
        go_wp2_with fail
        go_quiet (first | (go_at_call 38; refine Calls.quiet_of_same (QT.out _)))
        have KV := Lib.hid (KI.out.trans (Kr.same (Fr.ofBelow (below_drewN (Below.refl _ wr) nq)) : Kr wr (rfoot rb lv sv) (wr.drewN nq) (rfoot rb lv sv)))
        have HV := Lib.hid (HI.out.keep (w' := wr.drewN nq) fun _ _ => rfl)
        have y0 := (drewN_cell wr nq _).trans c0
        have y1 := (drewN_cell wr nq _).trans cwr
        have y2 := (drewN_cell wr nq _).trans hlc
        generalize wr.drewN nq = V at KV HV y0 y1 y2 ⊢
        have LSTR : (str ((torn ft was now).take (512 * 0))) = str [] := rfl
        have E0 : (ByteArray.empty : ByteArray) = str ((torn ft was now).take (512 * 0)) := rfl
        go_wp2_with fail
        go_loopw [12, 11] (fun v o wz => ∃ q : Nat, q ≤ 8 ∧ v = .int .i64 q ∧ o = .string (str ((torn ft was now).take (512 * q))) ∧ wz = V) (fun v _ _ => 8 - (intOf v).toNat)
        case atStart => exact ⟨0, Nat.zero_le _, rfl, rfl, rfl⟩
        case round =>
          obtain ⟨q, hq, rfl, rfl, rfl⟩ := hrel
          by_cases hlq : q < 8
          · have HT := Lib.hid (torn_take ft was now LL.out PL.out q hlq)
            have hand := i64_and1
            obtain ⟨p, hp⟩ : ∃ p : Nat, p = 512 * q := ⟨_, rfl⟩
            have e3 : 512 * (q : Int) = (p : Int) := by omega
            have hp9 : p ≤ 4096 := by omega
            obtain ⟨o, ho⟩ : ∃ o, o = str ((torn ft was now).take (512 * q)) := ⟨_, rfl⟩
            rw [← ho]
            by_cases hb : bit ft q = true
            · have hb' : ft / 2 ^ q % 2 = 1 := by simpa [bit] using hb
              have rc := run_scut now p q PL.out hlq hp
              rw [← H2S.out] at rc
              have HO := Lib.hid (show o ++ str (sector now q) = str ((torn ft was now).take (512 * (q + 1))) by rw [HT.out, if_pos hb, ho, str_app])
              obtain ⟨s3, hs3⟩ : ∃ s3, s3 = str (sector now q) := ⟨_, rfl⟩
              have sz : o.size + s3.size ≤ 9223372036854775807 := by
                rw [ho, hs3, str_size, str_size]
                simp only [sector, List.length_take]
                omega
              rw [← hs3] at rc HO
              clear hb hp ho hs3 E0 LSTR
              go_wp2_with fail
              go_roundw
              case rel => exact ⟨q + 1, by omega, by go_num, congrArg Value.string HO.out, trivial⟩
              case measure => simp [intOf]; omega
            · have hb' : ¬ ft / 2 ^ q % 2 = 1 := by simpa [bit] using hb
              have rc := run_scut was p q LL.out hlq hp
              rw [← H1S.out] at rc
              have HO := Lib.hid (show o ++ str (sector was q) = str ((torn ft was now).take (512 * (q + 1))) by rw [HT.out, if_neg hb, ho, str_app])
              obtain ⟨s3, hs3⟩ : ∃ s3, s3 = str (sector was q) := ⟨_, rfl⟩
              have sz : o.size + s3.size ≤ 9223372036854775807 := by
                rw [ho, hs3, str_size, str_size]
                simp only [sector, List.length_take]
                omega
              rw [← hs3] at rc HO
              clear hb hp ho hs3 E0 LSTR
              go_wp2_with fail
              go_roundw
              case rel => exact ⟨q + 1, by omega, by go_num, congrArg Value.string HO.out, trivial⟩
              case measure => simp [intOf]; omega
          · obtain rfl : q = 8 := by omega
            have hl : (torn ft was now).length = 4096 := torn_len ft was now LL.out PL.out
            have ht : (torn ft was now).take (512 * 8) = torn ft was now := List.take_of_length_le (by omega)
            rw [ht]
            have hpp : pp < rk.n := by rw [RN.out]; exact HP.out
            have HV' := HV.out
            rw [HLV.out, ← RN.out] at HV'
            have HN2 := Lib.hid (show ∀ W : World, (∀ j, W.heap[j]? = wr.heap[j]?) → IsR (W.setCell ⟨gl, pp, none⟩ (.string (str (torn ft was now)))) rb lv sv (r.endK fs ms (k + 1)) from by
              intro W hW
              rw [HE.out, HLV.out, ← RN.out]
              exact IsR.setLast (HV'.keep (w' := W) fun _ _ => hW _) pp hpp (torn ft was now) hl)
            have fz := HV'.lasts.frozenAt pp
            have HF2 := Lib.hid (show rfoot rb lv sv gl by rw [HLV.out]; exact .inr (.inl rfl))
            obtain ⟨o, ho⟩ : ∃ o, o = str (torn ft was now) := ⟨_, rfl⟩
            rw [← ho] at HN2 ⊢
            clear HV' ho ht hl hpp E0 LSTR
            go_wp2_with fail
            go_still_tail 10, (by kernel_rfl)
            change wpList _ _ _ _ _ wr.drew
            go_wp2_with fail
            go_roundw
            case rel => exact ⟨k + 1, by omega, by go_num, (HN2.out wr fun _ => rfl).keep fun _ _ => rfl, KV.out.trans (Kr.same (Fr.setCell _ _ (fun _ => HF2.out) _).drew)⟩
            case measure => simp [intOf]; omega
    · obtain rfl : k = wl.length := by omega
      have c1 := HI.out.c1
      have f1 := HI.out.row.frozen 1
      go_wp2_with fail
      go_end0
      refine ⟨rfl, ?_, ?_⟩
      · have := HI.out.clearS
        rw [HWL.out] at this
        exact this
      · have k1 : Kr w (rfoot rb lv sv) w1 (rfoot rb lv sv) := Kr.same (Fr.ofBelow B1.out)
        refine (k1.trans KI.out).trans ⟨Fr.setCell _ _ (fun _ => .inl rfl) _, fun j _ hj => ?_⟩
        rcases hj with e | e | e
        · exact .inl e
        · exact .inr (.inl e)
        · cases e
end Go.Proofs.Ytpnnakjffcohoaa
