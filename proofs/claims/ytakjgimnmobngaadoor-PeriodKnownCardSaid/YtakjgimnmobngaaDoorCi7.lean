import Derived.Test.YtakjgimnmobngaaDoorCi6
import Derived.Test.YtakjgimnmobngaaDoorRows
import Derived.Lib.SmallJoins
import Derived.Stop.LaidErr
import Derived.LaidMore
import Derived.ProofKit
namespace Go.Proofs.YtakjgimnmobngaaDoor.Ci
open Go.RowKit Mem Go.Sort

theorem of_out {z : Int} (w : World) (h : z < -719162 ∨ 2932896 < z) :
    Calls Tryd.prog 19 #[.int .i64 z] w fun e w' => e = .returned (.tuple #[.agg #[.int .i64 0, .int .i64 0, .int .i64 0], .int .i64 1]) ∧ Below w.heap.size w w' := by
  have hd : (z < -719162) ∨ (¬ z < -719162 ∧ 2932896 < z) := by omega
  clear h
  rcases hd with h | ⟨h0, h⟩ <;>
  ( go_enter Tryd.func19, Tryd.ntmps19
    go_wp2_with fail
    exact bodyPost_ret (v := .tuple #[.agg #[.int .i64 0, .int .i64 0, .int .i64 0], .int .i64 1]) (by simp [results, Tryd.results19, go_sem]) rfl ⟨rfl, (((Below.refl _ _).alloc (Nat.le_refl _) _).alloc (by simp) _)⟩)
theorem of_yes {y m d : Int} (w : World) (hw : Lens w) (h : vldB y m d = true) :
    Calls Tryd.prog 19 #[.int .i64 (num y m d)] w fun e w' => e = .returned (.tuple #[.agg #[.int .i64 y, .int .i64 m, .int .i64 d], .int .i64 0]) ∧ Below w.heap.size w w' := by
  have b := num_bd h
  refine (of_in _ w hw b.1 b.2).mono ?_
  rintro e w' ⟨y', m', d', rfl, ⟨hv, hn⟩, hb⟩
  obtain ⟨rfl, rfl, rfl⟩ := num_inj hv h hn
  exact ⟨rfl, hb⟩

end Go.Proofs.YtakjgimnmobngaaDoor.Ci
