import Derived.Test.YtnaoodaadeimbaaRows
import Derived.Test.YtnaoodaadeimbaaMem
import Derived.Test.YtnaoodaadeimbaaOpen
import Derived.Test.YtnaoodaadeimbaaW1
import Derived.WalkKit
import Derived.Outline
import Derived.ProofKit
import Derived.LoopTactic
import Derived.WalkSpells
import Derived.Handy
namespace Go.Proofs.Ytnaoodaadeimbaa.Mo
theorem named {α : Type} (x : α) : ∃ y, x = y := ⟨x, rfl⟩
end Go.Proofs.Ytnaoodaadeimbaa.Mo
