/-
  NARROWER THAN 'FOR EVERY INPUT', by the rows' own cells (each row's printed sentence says how): TreeActs: laid · TreeFull: laid · TreeOrder: laid · TreeNil: laid.
  DERIVED. THE GIVEN ROWS OF THIS SEAT. 4 by the template 'for every input the law returns true; each argument reads behind the call as it read before'; 0 by the template 'total and deterministic' (their statements: YtcjokkjepgfinaaGreatDoorTotals.lean).
  GIVEN WITH THE SEED: the statements are not yours to turn. If you find one false, say at which input.
  Laid BY PROGRAM, IN A SANDBOX (cutbox-rows.mjs): the forced cells as the released guide's own fill.sh prints them over the translation 3cb3b08f87a2bf7d… (all of the seat's roots in one cut). By AI agents, Wed Nov 11 2026. No macro, syntax, notation, axiom, sorry.
-/
import Derived.Test.YtcjokkjepgfinaaGreatDoorChecked
import GoSem.Claim
import GoSem.ClaimJoined
import GoSem.ClaimMapViews
import Derived.JoinedTies
import Derived.KernelRfl
namespace Go.Proofs.YtcjokkjepgfinaaGreatDoor
/- THE CELL 'sum', in the pinned program and in every row, IS THE sha256 OF THE DUMP (.gsa) THAT YtcjokkjepgfinaaGreatDoorProg.lean LOADS. Nothing in Lean hashes anything: it is a label: what it is worth is what the hold of that sum in a sandbox is worth. -/
noncomputable def Tryz.pinned : Pinned := { name := "ytcjokkjepgfinaagreatdoor", sum := "3cb3b08f87a2bf7d4e8646ae3b1a635ee2ae370aaa00cf782ea1ec7162a00021", checked := Tryz.checked }
namespace Rows
def none {H : Type} : Left H := { results := [], args := [] }

/- WHAT THE LISTED PACKAGE-LEVEL VARIABLES READ AS WHEN THE CALL BEGINS. Each datum BY PROGRAM (the guide's laid-datum.mjs) off the statement by which the dump's own 'gosem.cut.vars' lays the variable. In a bare row this is a premise. The card (YtcjokkjepgfinaaGreatDoorCards.lean) ties it to the program's text. -/
def laid_quitrent_crc_fours {H : Type} : DataW H := .agg [.lit (.int .u32 0), .lit (.int .u32 274646895), .lit (.int .u32 549293790), .lit (.int .u32 820201905), .lit (.int .u32 1098587580), .lit (.int .u32 1361435347), .lit (.int .u32 1640403810), .lit (.int .u32 1905808397), .lit (.int .u32 2197175160), .lit (.int .u32 2460548119), .lit (.int .u32 2722870694), .lit (.int .u32 2987750089), .lit (.int .u32 3280807620), .lit (.int .u32 3553878443), .lit (.int .u32 3811616794), .lit (.int .u32 4084100981)]

/-- 'quitrentlaw06.TreeActs': WHATEVER THE INPUT: true; the input reads as it did. -/
def treeActsSpec : ChangeSpec := { name := "treeActs", fn := fun _ => fun
  | [d] => { results := [.lit (.bool true)], args := [d] }
  | _ => none }
def treeActsRow : OpenClaim := { program := "ytcjokkjepgfinaagreatdoor", sum := "3cb3b08f87a2bf7d4e8646ae3b1a635ee2ae370aaa00cf782ea1ec7162a00021", func := "quitrent/quitrentlaw06.TreeActs", spec := "treeActs", inPlace := ["internal/bytealg.Compare"], unfollowed := true, recurses := true, named := ["quitrent/crc.fours"], apart := false, laid := [("quitrent/crc.fours", laid_quitrent_crc_fours)] }
def TreeActsSaid : Prop := treeActsRow.holds Tryz.pinned (OpenSpec.ofChange treeActsSpec)

/-- ITS FALSE NEIGHBOUR: 'it returns false'. Refute it at one input. -/
def treeActsWrong : ChangeSpec := { name := "treeActs", fn := fun _ => fun
  | [d] => { results := [.lit (.bool false)], args := [d] }
  | _ => none }
def TreeActsWrongFalsely : Prop := treeActsRow.holds Tryz.pinned (OpenSpec.ofChange treeActsWrong)

/-- 'quitrentlaw06.TreeFull': WHATEVER THE INPUT: true; the input reads as it did. -/
def treeFullSpec : ChangeSpec := { name := "treeFull", fn := fun _ => fun
  | [d1, d2] => { results := [.lit (.bool true)], args := [d1, d2] }
  | _ => none }
def treeFullRow : OpenClaim := { program := "ytcjokkjepgfinaagreatdoor", sum := "3cb3b08f87a2bf7d4e8646ae3b1a635ee2ae370aaa00cf782ea1ec7162a00021", func := "quitrent/quitrentlaw06.TreeFull", spec := "treeFull", inPlace := ["internal/bytealg.Compare"], unfollowed := true, recurses := true, named := ["quitrent/crc.fours"], apart := false, laid := [("quitrent/crc.fours", laid_quitrent_crc_fours)] }
def TreeFullSaid : Prop := treeFullRow.holds Tryz.pinned (OpenSpec.ofChange treeFullSpec)

/-- ITS FALSE NEIGHBOUR: 'it returns false'. Refute it at one input. -/
def treeFullWrong : ChangeSpec := { name := "treeFull", fn := fun _ => fun
  | [d1, d2] => { results := [.lit (.bool false)], args := [d1, d2] }
  | _ => none }
def TreeFullWrongFalsely : Prop := treeFullRow.holds Tryz.pinned (OpenSpec.ofChange treeFullWrong)

/-- 'quitrentlaw06.TreeOrder': WHATEVER THE INPUT: true; the input reads as it did. -/
def treeOrderSpec : ChangeSpec := { name := "treeOrder", fn := fun _ => fun
  | [d1, d2, d3, d4] => { results := [.lit (.bool true)], args := [d1, d2, d3, d4] }
  | _ => none }
def treeOrderRow : OpenClaim := { program := "ytcjokkjepgfinaagreatdoor", sum := "3cb3b08f87a2bf7d4e8646ae3b1a635ee2ae370aaa00cf782ea1ec7162a00021", func := "quitrent/quitrentlaw06.TreeOrder", spec := "treeOrder", inPlace := ["internal/bytealg.Compare"], unfollowed := true, recurses := true, named := ["quitrent/crc.fours"], apart := false, laid := [("quitrent/crc.fours", laid_quitrent_crc_fours)] }
def TreeOrderSaid : Prop := treeOrderRow.holds Tryz.pinned (OpenSpec.ofChange treeOrderSpec)

/-- ITS FALSE NEIGHBOUR: 'it returns false'. Refute it at one input. -/
def treeOrderWrong : ChangeSpec := { name := "treeOrder", fn := fun _ => fun
  | [d1, d2, d3, d4] => { results := [.lit (.bool false)], args := [d1, d2, d3, d4] }
  | _ => none }
def TreeOrderWrongFalsely : Prop := treeOrderRow.holds Tryz.pinned (OpenSpec.ofChange treeOrderWrong)

/-- 'quitrentlaw06.TreeNil': WHATEVER THE INPUT: true; the input reads as it did. -/
def treeNilSpec : ChangeSpec := { name := "treeNil", fn := fun _ => fun
  | [d1, d2] => { results := [.lit (.bool true)], args := [d1, d2] }
  | _ => none }
def treeNilRow : OpenClaim := { program := "ytcjokkjepgfinaagreatdoor", sum := "3cb3b08f87a2bf7d4e8646ae3b1a635ee2ae370aaa00cf782ea1ec7162a00021", func := "quitrent/quitrentlaw06.TreeNil", spec := "treeNil", inPlace := ["internal/bytealg.Compare"], unfollowed := true, recurses := true, named := ["quitrent/crc.fours"], apart := false, laid := [("quitrent/crc.fours", laid_quitrent_crc_fours)] }
def TreeNilSaid : Prop := treeNilRow.holds Tryz.pinned (OpenSpec.ofChange treeNilSpec)

/-- ITS FALSE NEIGHBOUR: 'it returns false'. Refute it at one input. -/
def treeNilWrong : ChangeSpec := { name := "treeNil", fn := fun _ => fun
  | [d1, d2] => { results := [.lit (.bool false)], args := [d1, d2] }
  | _ => none }
def TreeNilWrongFalsely : Prop := treeNilRow.holds Tryz.pinned (OpenSpec.ofChange treeNilWrong)

/- THE SECOND FORM. 'bulk': how many values and letters a reading holds, each counted each time it is reached (what is shared counts as often as it is met; a slice's spare places count too). A statement '..UptoSaid' is the law's where the arguments, and the package variables that the reading takes, are together of bulk at most 1048576: NARROWER than '..Said'. Prove '..Said' where nothing that the law and all that it calls make is longer than what came in: it says more and counts as full. Else prove '..UptoSaid'. A law counts once. -/
mutual
def uptoBulk {H : Type} : DataW H → Nat
  | .lit (.string bytes) => bytes.length + 1
  | .lit _ => 1
  | .nil => 1
  | .ptr d => uptoBulk d + 1
  | .slice elems spare => uptoBulkAll elems + uptoBulkAll spare + 1
  | .agg parts => uptoBulkAll parts + 1
  | .iface _ d => uptoBulk d + 1
  | .map entries => uptoBulkEntries entries + 1
  | .held _ => 1
def uptoBulkAll {H : Type} : List (DataW H) → Nat
  | [] => 0
  | d :: r => uptoBulk d + uptoBulkAll r
def uptoBulkEntries {H : Type} : List (Lit × DataW H) → Nat
  | [] => 0
  | x :: r => uptoBulkEntry x + uptoBulkEntries r
def uptoBulkEntry {H : Type} : Lit × DataW H → Nat
  | (.string bytes, d) => bytes.length + uptoBulk d + 1
  | (_, d) => uptoBulk d + 1
 end
def uptoSmall : (H : Type) → List (DataW H) → Bool := fun _ ds => decide (uptoBulkAll ds ≤ 1048576)
def OpenSpec.upto (s : _root_.Go.ChangeSpec) : _root_.Go.OpenSpec := { _root_.Go.OpenSpec.ofChange s with cond := some uptoSmall }

/-- 'quitrentlaw06.TreeActs', WHERE WHAT IT READS IS OF BULK AT MOST 1048576: true; the input reads as it did. -/
def treeActsUptoRow : OpenClaim := { program := "ytcjokkjepgfinaagreatdoor", sum := "3cb3b08f87a2bf7d4e8646ae3b1a635ee2ae370aaa00cf782ea1ec7162a00021", func := "quitrent/quitrentlaw06.TreeActs", spec := "treeActs", inPlace := ["internal/bytealg.Compare"], unfollowed := true, recurses := true, named := ["quitrent/crc.fours"], apart := false, laid := [("quitrent/crc.fours", laid_quitrent_crc_fours)], narrowed := true }
def TreeActsUptoSaid : Prop := treeActsUptoRow.holds Tryz.pinned (OpenSpec.upto treeActsSpec)

/-- 'quitrentlaw06.TreeFull', WHERE WHAT IT READS IS OF BULK AT MOST 1048576: true; the input reads as it did. -/
def treeFullUptoRow : OpenClaim := { program := "ytcjokkjepgfinaagreatdoor", sum := "3cb3b08f87a2bf7d4e8646ae3b1a635ee2ae370aaa00cf782ea1ec7162a00021", func := "quitrent/quitrentlaw06.TreeFull", spec := "treeFull", inPlace := ["internal/bytealg.Compare"], unfollowed := true, recurses := true, named := ["quitrent/crc.fours"], apart := false, laid := [("quitrent/crc.fours", laid_quitrent_crc_fours)], narrowed := true }
def TreeFullUptoSaid : Prop := treeFullUptoRow.holds Tryz.pinned (OpenSpec.upto treeFullSpec)

/-- 'quitrentlaw06.TreeOrder', WHERE WHAT IT READS IS OF BULK AT MOST 1048576: true; the input reads as it did. -/
def treeOrderUptoRow : OpenClaim := { program := "ytcjokkjepgfinaagreatdoor", sum := "3cb3b08f87a2bf7d4e8646ae3b1a635ee2ae370aaa00cf782ea1ec7162a00021", func := "quitrent/quitrentlaw06.TreeOrder", spec := "treeOrder", inPlace := ["internal/bytealg.Compare"], unfollowed := true, recurses := true, named := ["quitrent/crc.fours"], apart := false, laid := [("quitrent/crc.fours", laid_quitrent_crc_fours)], narrowed := true }
def TreeOrderUptoSaid : Prop := treeOrderUptoRow.holds Tryz.pinned (OpenSpec.upto treeOrderSpec)

/-- 'quitrentlaw06.TreeNil', WHERE WHAT IT READS IS OF BULK AT MOST 1048576: true; the input reads as it did. -/
def treeNilUptoRow : OpenClaim := { program := "ytcjokkjepgfinaagreatdoor", sum := "3cb3b08f87a2bf7d4e8646ae3b1a635ee2ae370aaa00cf782ea1ec7162a00021", func := "quitrent/quitrentlaw06.TreeNil", spec := "treeNil", inPlace := ["internal/bytealg.Compare"], unfollowed := true, recurses := true, named := ["quitrent/crc.fours"], apart := false, laid := [("quitrent/crc.fours", laid_quitrent_crc_fours)], narrowed := true }
def TreeNilUptoSaid : Prop := treeNilUptoRow.holds Tryz.pinned (OpenSpec.upto treeNilSpec)

end Rows
end Go.Proofs.YtcjokkjepgfinaaGreatDoor
