/-
  NARROWER THAN 'FOR EVERY INPUT', by the rows' own cells (each row's printed sentence says how): StoreActs: laid · StoreCrash: laid · StoreLoses: laid · StoreHeads: laid · StoreNil: laid · StoreKnown: laid.
  DERIVED. THE GIVEN ROWS OF THIS SEAT. 6 by the template 'for every input the law returns true; each argument reads behind the call as it read before'; 0 by the template 'total and deterministic' (their statements: YtnpebfolmdbipaaGreatDoorTotals.lean).
  GIVEN WITH THE SEED: the statements are not yours to turn. If you find one false, say at which input.
  Laid BY PROGRAM, IN A SANDBOX (cutbox-rows.mjs): the forced cells as the released guide's own fill.sh prints them over the translation f9947d5682e214a1… (all of the seat's roots in one cut). By AI agents, Wed Nov 11 2026. No macro, syntax, notation, axiom, sorry.
-/
import Derived.Test.YtnpebfolmdbipaaGreatDoorChecked
import GoSem.Claim
import GoSem.ClaimJoined
import GoSem.ClaimMapViews
import Derived.JoinedTies
import Derived.KernelRfl
namespace Go.Proofs.YtnpebfolmdbipaaGreatDoor
/- THE CELL 'sum', in the pinned program and in every row, IS THE sha256 OF THE DUMP (.gsa) THAT YtnpebfolmdbipaaGreatDoorProg.lean LOADS. Nothing in Lean hashes anything: it is a label: what it is worth is what the hold of that sum in a sandbox is worth. -/
noncomputable def Tryz.pinned : Pinned := { name := "ytnpebfolmdbipaagreatdoor", sum := "f9947d5682e214a12d7c751538685dedd247ad2c6719d03276f20e0e9d791c31", checked := Tryz.checked }
namespace Rows
def none {H : Type} : Left H := { results := [], args := [] }

/- WHAT THE LISTED PACKAGE-LEVEL VARIABLES READ AS WHEN THE CALL BEGINS. Each datum BY PROGRAM (the guide's laid-datum.mjs) off the statement by which the dump's own 'gosem.cut.vars' lays the variable. In a bare row this is a premise. The card (YtnpebfolmdbipaaGreatDoorCards.lean) ties it to the program's text. -/
def laid_quitrent_crc_fours {H : Type} : DataW H := .agg [.lit (.int .u32 0), .lit (.int .u32 274646895), .lit (.int .u32 549293790), .lit (.int .u32 820201905), .lit (.int .u32 1098587580), .lit (.int .u32 1361435347), .lit (.int .u32 1640403810), .lit (.int .u32 1905808397), .lit (.int .u32 2197175160), .lit (.int .u32 2460548119), .lit (.int .u32 2722870694), .lit (.int .u32 2987750089), .lit (.int .u32 3280807620), .lit (.int .u32 3553878443), .lit (.int .u32 3811616794), .lit (.int .u32 4084100981)]

/-- 'quitrentlaw05.StoreActs': WHATEVER THE INPUT: true; the input reads as it did. -/
def storeActsSpec : ChangeSpec := { name := "storeActs", fn := fun _ => fun
  | [d1, d2] => { results := [.lit (.bool true)], args := [d1, d2] }
  | _ => none }
def storeActsRow : OpenClaim := { program := "ytnpebfolmdbipaagreatdoor", sum := "f9947d5682e214a12d7c751538685dedd247ad2c6719d03276f20e0e9d791c31", func := "quitrent/quitrentlaw05.StoreActs", spec := "storeActs", unfollowed := true, recurses := true, named := ["quitrent/crc.fours"], apart := false, laid := [("quitrent/crc.fours", laid_quitrent_crc_fours)] }
def StoreActsSaid : Prop := storeActsRow.holds Tryz.pinned (OpenSpec.ofChange storeActsSpec)

/-- ITS FALSE NEIGHBOUR: 'it returns false'. Refute it at one input. -/
def storeActsWrong : ChangeSpec := { name := "storeActs", fn := fun _ => fun
  | [d1, d2] => { results := [.lit (.bool false)], args := [d1, d2] }
  | _ => none }
def StoreActsWrongFalsely : Prop := storeActsRow.holds Tryz.pinned (OpenSpec.ofChange storeActsWrong)

/-- 'quitrentlaw05.StoreCrash': WHATEVER THE INPUT: true; the input reads as it did. -/
def storeCrashSpec : ChangeSpec := { name := "storeCrash", fn := fun _ => fun
  | [d1, d2, d3, d4] => { results := [.lit (.bool true)], args := [d1, d2, d3, d4] }
  | _ => none }
def storeCrashRow : OpenClaim := { program := "ytnpebfolmdbipaagreatdoor", sum := "f9947d5682e214a12d7c751538685dedd247ad2c6719d03276f20e0e9d791c31", func := "quitrent/quitrentlaw05.StoreCrash", spec := "storeCrash", unfollowed := true, recurses := true, named := ["quitrent/crc.fours"], apart := false, laid := [("quitrent/crc.fours", laid_quitrent_crc_fours)] }
def StoreCrashSaid : Prop := storeCrashRow.holds Tryz.pinned (OpenSpec.ofChange storeCrashSpec)

/-- ITS FALSE NEIGHBOUR: 'it returns false'. Refute it at one input. -/
def storeCrashWrong : ChangeSpec := { name := "storeCrash", fn := fun _ => fun
  | [d1, d2, d3, d4] => { results := [.lit (.bool false)], args := [d1, d2, d3, d4] }
  | _ => none }
def StoreCrashWrongFalsely : Prop := storeCrashRow.holds Tryz.pinned (OpenSpec.ofChange storeCrashWrong)

/-- 'quitrentlaw05.StoreLoses': WHATEVER THE INPUT: true; the input reads as it did. -/
def storeLosesSpec : ChangeSpec := { name := "storeLoses", fn := fun _ => fun
  | [d1, d2, d3, d4] => { results := [.lit (.bool true)], args := [d1, d2, d3, d4] }
  | _ => none }
def storeLosesRow : OpenClaim := { program := "ytnpebfolmdbipaagreatdoor", sum := "f9947d5682e214a12d7c751538685dedd247ad2c6719d03276f20e0e9d791c31", func := "quitrent/quitrentlaw05.StoreLoses", spec := "storeLoses", unfollowed := true, recurses := true, named := ["quitrent/crc.fours"], apart := false, laid := [("quitrent/crc.fours", laid_quitrent_crc_fours)] }
def StoreLosesSaid : Prop := storeLosesRow.holds Tryz.pinned (OpenSpec.ofChange storeLosesSpec)

/-- ITS FALSE NEIGHBOUR: 'it returns false'. Refute it at one input. -/
def storeLosesWrong : ChangeSpec := { name := "storeLoses", fn := fun _ => fun
  | [d1, d2, d3, d4] => { results := [.lit (.bool false)], args := [d1, d2, d3, d4] }
  | _ => none }
def StoreLosesWrongFalsely : Prop := storeLosesRow.holds Tryz.pinned (OpenSpec.ofChange storeLosesWrong)

/-- 'quitrentlaw05.StoreHeads': WHATEVER THE INPUT: true; the input reads as it did. -/
def storeHeadsSpec : ChangeSpec := { name := "storeHeads", fn := fun _ => fun
  | [d] => { results := [.lit (.bool true)], args := [d] }
  | _ => none }
def storeHeadsRow : OpenClaim := { program := "ytnpebfolmdbipaagreatdoor", sum := "f9947d5682e214a12d7c751538685dedd247ad2c6719d03276f20e0e9d791c31", func := "quitrent/quitrentlaw05.StoreHeads", spec := "storeHeads", unfollowed := true, recurses := true, named := ["quitrent/crc.fours"], apart := false, laid := [("quitrent/crc.fours", laid_quitrent_crc_fours)] }
def StoreHeadsSaid : Prop := storeHeadsRow.holds Tryz.pinned (OpenSpec.ofChange storeHeadsSpec)

/-- ITS FALSE NEIGHBOUR: 'it returns false'. Refute it at one input. -/
def storeHeadsWrong : ChangeSpec := { name := "storeHeads", fn := fun _ => fun
  | [d] => { results := [.lit (.bool false)], args := [d] }
  | _ => none }
def StoreHeadsWrongFalsely : Prop := storeHeadsRow.holds Tryz.pinned (OpenSpec.ofChange storeHeadsWrong)

/-- 'quitrentlaw05.StoreNil': WHATEVER THE INPUT: true; the input reads as it did. -/
def storeNilSpec : ChangeSpec := { name := "storeNil", fn := fun _ => fun
  | [d1, d2] => { results := [.lit (.bool true)], args := [d1, d2] }
  | _ => none }
def storeNilRow : OpenClaim := { program := "ytnpebfolmdbipaagreatdoor", sum := "f9947d5682e214a12d7c751538685dedd247ad2c6719d03276f20e0e9d791c31", func := "quitrent/quitrentlaw05.StoreNil", spec := "storeNil", unfollowed := true, recurses := true, named := ["quitrent/crc.fours"], apart := false, laid := [("quitrent/crc.fours", laid_quitrent_crc_fours)] }
def StoreNilSaid : Prop := storeNilRow.holds Tryz.pinned (OpenSpec.ofChange storeNilSpec)

/-- ITS FALSE NEIGHBOUR: 'it returns false'. Refute it at one input. -/
def storeNilWrong : ChangeSpec := { name := "storeNil", fn := fun _ => fun
  | [d1, d2] => { results := [.lit (.bool false)], args := [d1, d2] }
  | _ => none }
def StoreNilWrongFalsely : Prop := storeNilRow.holds Tryz.pinned (OpenSpec.ofChange storeNilWrong)

/-- 'quitrentlaw05.StoreKnown': WHATEVER THE INPUT: true; the input reads as it did. -/
def storeKnownSpec : ChangeSpec := { name := "storeKnown", fn := fun _ => fun
  | [] => { results := [.lit (.bool true)], args := [] }
  | _ => none }
def storeKnownRow : OpenClaim := { program := "ytnpebfolmdbipaagreatdoor", sum := "f9947d5682e214a12d7c751538685dedd247ad2c6719d03276f20e0e9d791c31", func := "quitrent/quitrentlaw05.StoreKnown", spec := "storeKnown", unfollowed := true, recurses := true, named := ["quitrent/crc.fours"], apart := false, laid := [("quitrent/crc.fours", laid_quitrent_crc_fours)] }
def StoreKnownSaid : Prop := storeKnownRow.holds Tryz.pinned (OpenSpec.ofChange storeKnownSpec)

/-- ITS FALSE NEIGHBOUR: 'it returns false'. Refute it at one input. -/
def storeKnownWrong : ChangeSpec := { name := "storeKnown", fn := fun _ => fun
  | [] => { results := [.lit (.bool false)], args := [] }
  | _ => none }
def StoreKnownWrongFalsely : Prop := storeKnownRow.holds Tryz.pinned (OpenSpec.ofChange storeKnownWrong)

/- THE SECOND FORM. 'bulk': how many values and letters a reading holds, each counted each time it is reached (what is shared counts as often as it is met; a slice's spare places count too). A statement '..UptoSaid' is the law's where the arguments, and the package variables that the reading takes, are together of bulk at most 1048576: NARROWER than '..Said'. Prove '..Said' where nothing that the law and all that it calls make is longer than what came in: it says more and counts as full. Else prove '..UptoSaid'. A law counts once. -/
mutual
def uptoBulk {H : Type} : DataW H → Nat
  | .lit (.string bytes) => bytes.length + 1
  | .lit _ => 1
  | .nil => 1
  | .ptr d => uptoBulk d + 1
  | .slice elems spare => uptoBulkAll elems + uptoBulkAll spare + 1
  | .agg parts => uptoBulkAll parts + 1
  | .iface _ d => uptoBulk d + 1
  | .map entries => uptoBulkEntries entries + 1
  | .held _ => 1
def uptoBulkAll {H : Type} : List (DataW H) → Nat
  | [] => 0
  | d :: r => uptoBulk d + uptoBulkAll r
def uptoBulkEntries {H : Type} : List (Lit × DataW H) → Nat
  | [] => 0
  | x :: r => uptoBulkEntry x + uptoBulkEntries r
def uptoBulkEntry {H : Type} : Lit × DataW H → Nat
  | (.string bytes, d) => bytes.length + uptoBulk d + 1
  | (_, d) => uptoBulk d + 1
 end
def uptoSmall : (H : Type) → List (DataW H) → Bool := fun _ ds => decide (uptoBulkAll ds ≤ 1048576)
def OpenSpec.upto (s : _root_.Go.ChangeSpec) : _root_.Go.OpenSpec := { _root_.Go.OpenSpec.ofChange s with cond := some uptoSmall }

/-- 'quitrentlaw05.StoreActs', WHERE WHAT IT READS IS OF BULK AT MOST 1048576: true; the input reads as it did. -/
def storeActsUptoRow : OpenClaim := { program := "ytnpebfolmdbipaagreatdoor", sum := "f9947d5682e214a12d7c751538685dedd247ad2c6719d03276f20e0e9d791c31", func := "quitrent/quitrentlaw05.StoreActs", spec := "storeActs", unfollowed := true, recurses := true, named := ["quitrent/crc.fours"], apart := false, laid := [("quitrent/crc.fours", laid_quitrent_crc_fours)], narrowed := true }
def StoreActsUptoSaid : Prop := storeActsUptoRow.holds Tryz.pinned (OpenSpec.upto storeActsSpec)

/-- 'quitrentlaw05.StoreCrash', WHERE WHAT IT READS IS OF BULK AT MOST 1048576: true; the input reads as it did. -/
def storeCrashUptoRow : OpenClaim := { program := "ytnpebfolmdbipaagreatdoor", sum := "f9947d5682e214a12d7c751538685dedd247ad2c6719d03276f20e0e9d791c31", func := "quitrent/quitrentlaw05.StoreCrash", spec := "storeCrash", unfollowed := true, recurses := true, named := ["quitrent/crc.fours"], apart := false, laid := [("quitrent/crc.fours", laid_quitrent_crc_fours)], narrowed := true }
def StoreCrashUptoSaid : Prop := storeCrashUptoRow.holds Tryz.pinned (OpenSpec.upto storeCrashSpec)

/-- 'quitrentlaw05.StoreLoses', WHERE WHAT IT READS IS OF BULK AT MOST 1048576: true; the input reads as it did. -/
def storeLosesUptoRow : OpenClaim := { program := "ytnpebfolmdbipaagreatdoor", sum := "f9947d5682e214a12d7c751538685dedd247ad2c6719d03276f20e0e9d791c31", func := "quitrent/quitrentlaw05.StoreLoses", spec := "storeLoses", unfollowed := true, recurses := true, named := ["quitrent/crc.fours"], apart := false, laid := [("quitrent/crc.fours", laid_quitrent_crc_fours)], narrowed := true }
def StoreLosesUptoSaid : Prop := storeLosesUptoRow.holds Tryz.pinned (OpenSpec.upto storeLosesSpec)

/-- 'quitrentlaw05.StoreHeads', WHERE WHAT IT READS IS OF BULK AT MOST 1048576: true; the input reads as it did. -/
def storeHeadsUptoRow : OpenClaim := { program := "ytnpebfolmdbipaagreatdoor", sum := "f9947d5682e214a12d7c751538685dedd247ad2c6719d03276f20e0e9d791c31", func := "quitrent/quitrentlaw05.StoreHeads", spec := "storeHeads", unfollowed := true, recurses := true, named := ["quitrent/crc.fours"], apart := false, laid := [("quitrent/crc.fours", laid_quitrent_crc_fours)], narrowed := true }
def StoreHeadsUptoSaid : Prop := storeHeadsUptoRow.holds Tryz.pinned (OpenSpec.upto storeHeadsSpec)

/-- 'quitrentlaw05.StoreNil', WHERE WHAT IT READS IS OF BULK AT MOST 1048576: true; the input reads as it did. -/
def storeNilUptoRow : OpenClaim := { program := "ytnpebfolmdbipaagreatdoor", sum := "f9947d5682e214a12d7c751538685dedd247ad2c6719d03276f20e0e9d791c31", func := "quitrent/quitrentlaw05.StoreNil", spec := "storeNil", unfollowed := true, recurses := true, named := ["quitrent/crc.fours"], apart := false, laid := [("quitrent/crc.fours", laid_quitrent_crc_fours)], narrowed := true }
def StoreNilUptoSaid : Prop := storeNilUptoRow.holds Tryz.pinned (OpenSpec.upto storeNilSpec)

/-- 'quitrentlaw05.StoreKnown', WHERE WHAT IT READS IS OF BULK AT MOST 1048576: true; the input reads as it did. -/
def storeKnownUptoRow : OpenClaim := { program := "ytnpebfolmdbipaagreatdoor", sum := "f9947d5682e214a12d7c751538685dedd247ad2c6719d03276f20e0e9d791c31", func := "quitrent/quitrentlaw05.StoreKnown", spec := "storeKnown", unfollowed := true, recurses := true, named := ["quitrent/crc.fours"], apart := false, laid := [("quitrent/crc.fours", laid_quitrent_crc_fours)], narrowed := true }
def StoreKnownUptoSaid : Prop := storeKnownUptoRow.holds Tryz.pinned (OpenSpec.upto storeKnownSpec)

end Rows
end Go.Proofs.YtnpebfolmdbipaaGreatDoor
