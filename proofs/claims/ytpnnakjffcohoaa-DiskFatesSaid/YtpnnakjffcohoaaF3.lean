import Derived.Test.YtpnnakjffcohoaaF2
namespace Go.Proofs.Ytpnnakjffcohoaa
set_option linter.unusedVariables false
set_option linter.unusedSimpArgs false
open Go.RowKit Mem Go.ChangeMaps
open Go.ChangeShapes Go.WideShapes Go.Deep in
theorem diskFates_walk (a0 : Int) (A1 : Option Addr) (len1 cap1 : Nat) (f1 : Nat → ActD) (whole : Bool) (w : World) (w0 : (Lit.int .u8 a0).wf = true) (w1 : Acts w w.heap.size A1 len1 cap1 f1) :
    Calls Try.prog 5 #[.int .u8 a0, .slice A1 len1 cap1, .bool whole] w fun e w' => e = .returned (.bool true) ∧ Below w.heap.size w w' :=
  diskFates_core a0 (bounds_u8 w0).1 (by have := (bounds_u8 w0).2; omega) A1 len1 cap1 f1 whole w w1
end Go.Proofs.Ytpnnakjffcohoaa
