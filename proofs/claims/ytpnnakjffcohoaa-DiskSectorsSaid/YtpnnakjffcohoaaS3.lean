import Derived.Test.YtpnnakjffcohoaaS2
namespace Go.Proofs.Ytpnnakjffcohoaa
set_option linter.unusedVariables false
set_option linter.unusedSimpArgs false
open Go.RowKit Mem Go.ChangeMaps
open Go.ChangeShapes Go.WideShapes Go.Deep in
theorem diskSectors_walk (a0 : Int) (A1 : Option Addr) (len1 cap1 : Nat) (f1 : Nat → ActD) (A2 : Option Addr) (len2 cap2 : Nat) (f2 : Nat → ActD) (A3 : Option Addr) (len3 cap3 : Nat) (l3 : List Int) (hl3 : l3.length = len3)
    (w : World) (w0 : (Lit.int .u8 a0).wf = true) (w1 : Acts w w.heap.size A1 len1 cap1 f1) (w2 : Acts w w.heap.size A2 len2 cap2 f2) (w3 : RdI w w.heap.size A3 cap3 l3) :
    Calls Try.prog 4 #[.int .u8 a0, .slice A1 len1 cap1, .slice A2 len2 cap2, .slice A3 len3 cap3] w fun e w' => e = .returned (.bool true) ∧ Below w.heap.size w w' :=
  diskSectors_core a0 (bounds_u8 w0).1 (by have := (bounds_u8 w0).2; omega) A1 len1 cap1 f1 A2 len2 cap2 f2 A3 len3 cap3 l3 hl3 w w1 w2 w3
end Go.Proofs.Ytpnnakjffcohoaa
