import Derived.Test.YtpnnakjffcohoaaRA
import Derived.Test.YtpnnakjffcohoaaA5
namespace Go.Proofs.Ytpnnakjffcohoaa
set_option linter.unusedVariables false
set_option linter.unusedSimpArgs false
open Go.RowKit Mem Go.ChangeMaps

/-! ### The program's disk and the document's, side by side -/
structure Two (B : Nat) (W w : World) (db : Nat) (y : Lay) (d : Dsk) (m rb : Nat) (lv sv : Value) (r : Rfd) : Prop where
  st : St B W w db y d m
  is : IsR w rb lv sv r
  low : ∀ k, rfoot rb lv sv k → B ≤ k
  apart : ∀ k, y.foot k → ¬ rfoot rb lv sv k

variable {B : Nat} {W w : World} {db : Nat} {y : Lay} {d : Dsk} {m rb : Nat} {lv sv : Value} {r : Rfd}

theorem IsR.fr {F : Nat → Prop} {w' : World} (h : IsR w rb lv sv r) (hf : Fr F w w') (hF : ∀ k, rfoot rb lv sv k → ¬ F k) : IsR w' rb lv sv r := h.keep fun k hk => hf.block k (h.lt k hk) (hF k hk)
theorem Two.baseLe (t : Two B W w db y d m rb lv sv r) : B ≤ w.heap.size := Nat.le_trans t.st.base t.st.bel.size
/-- The program's disk turns. -/
theorem Two.left (t : Two B W w db y d m rb lv sv r) {w' : World} {y' : Lay} {d' : Dsk} {m' : Nat} (s : St B W w' db y' d' m') (k : Kp w y w' y') : Two B W w' db y' d' m' rb lv sv r :=
  ⟨s, t.is.fr k.fr (fun j hj hf => t.apart j hf hj), t.low, fun j hj hr => t.apart j (k.foot j (t.is.lt j hr) hj) hr⟩
/-- The document's disk turns. -/
theorem Two.right (t : Two B W w db y d m rb lv sv r) {w' : World} {sv' : Value} {r' : Rfd} (h : IsR w' rb lv sv' r') (k : Kr w (rfoot rb lv sv) w' (rfoot rb lv sv')) : Two B W w' db y d m rb lv sv' r' :=
  ⟨⟨t.st.is.fr k.fr t.apart, t.st.good, t.st.le, t.st.bel.trans (k.fr.below t.baseLe t.low), t.st.low, t.st.base⟩, h, fun j hj => by
    by_cases hlt : j < w.heap.size
    · exact t.low j (k.foot j hlt hj)
    · have := t.baseLe; omega, fun j hj hr => t.apart j hj (k.foot j (t.st.is.foot j hj) hr)⟩
theorem Two.keep (t : Two B W w db y d m rb lv sv r) {w' : World} (hb : Below w.heap.size w w') : Two B W w' db y d m rb lv sv r :=
  ⟨t.st.keep hb, t.is.below hb, t.low, t.apart⟩
theorem Two.drew (t : Two B W w db y d m rb lv sv r) : Two B W w.drew db y d m rb lv sv r := t.keep ((Below.refl _ w).drew)

theorem newR_two (n : Nat) : toD ⟨n, fun _ => zpage, [], -1, false⟩ = newD n := rfl
end Go.Proofs.Ytpnnakjffcohoaa
