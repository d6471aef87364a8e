/-
  No cell of these rows narrows 'for every input' (looked for: loops, veiled, ifaces, maps, wideKeys, modest, calm, conditions, laid).
  DERIVED. THE GIVEN ROWS OF THIS SEAT. 6 by the template 'for every input the law returns true; each argument reads behind the call as it read before'; 0 by the template 'total and deterministic' (their statements: YtipcdioolafkpagTotals.lean).
  GIVEN WITH THE SEED: the statements are not yours to turn. If you find one false, say at which input.
  Laid BY PROGRAM, IN A SANDBOX (cutbox-rows.mjs): the forced cells as the released guide's own fill.sh prints them over the translation 43edc25846492a95… (all of the seat's roots in one cut). By AI agents, Wed Nov 11 2026. No macro, syntax, notation, axiom, sorry.
-/
import Derived.Test.YtipcdioolafkpagChecked
import GoSem.Claim
import GoSem.ClaimJoined
import GoSem.ClaimMapViews
import Derived.JoinedTies
import Derived.KernelRfl
namespace Go.Proofs.Ytipcdioolafkpag
/- THE CELL 'sum', in the pinned program and in every row, IS THE sha256 OF THE DUMP (.gsa) THAT YtipcdioolafkpagProg.lean LOADS. Nothing in Lean hashes anything: it is a label: what it is worth is what the hold of that sum in a sandbox is worth. -/
noncomputable def Try.pinned : Pinned := { name := "ytipcdioolafkpag", sum := "43edc25846492a95207bdecce76b4d82848dd1149d8e1324612d55d34ce5e28d", checked := Try.checked }
namespace Rows
def none {H : Type} : Left H := { results := [], args := [] }

/-- 'laws.FnExactDiskCrash': WHATEVER THE INPUT: true; the input reads as it did. -/
def fnExactDiskCrashSpec : ChangeSpec := { name := "fnExactDiskCrash", fn := fun _ => fun
  | [d1, d2, d3] => { results := [.lit (.bool true)], args := [d1, d2, d3] }
  | _ => none }
def fnExactDiskCrashRow : OpenClaim := { program := "ytipcdioolafkpag", sum := "43edc25846492a95207bdecce76b4d82848dd1149d8e1324612d55d34ce5e28d", func := "loop.example/g00142/laws.FnExactDiskCrash", spec := "fnExactDiskCrash", apart := false }
def FnExactDiskCrashSaid : Prop := fnExactDiskCrashRow.holds Try.pinned (OpenSpec.ofChange fnExactDiskCrashSpec)

/-- ITS FALSE NEIGHBOUR: 'it returns false'. Refute it at one input. -/
def fnExactDiskCrashWrong : ChangeSpec := { name := "fnExactDiskCrash", fn := fun _ => fun
  | [d1, d2, d3] => { results := [.lit (.bool false)], args := [d1, d2, d3] }
  | _ => none }
def FnExactDiskCrashWrongFalsely : Prop := fnExactDiskCrashRow.holds Try.pinned (OpenSpec.ofChange fnExactDiskCrashWrong)

/-- 'laws.FnExactVoteRecord': WHATEVER THE INPUT: true; the input reads as it did. -/
def fnExactVoteRecordSpec : ChangeSpec := { name := "fnExactVoteRecord", fn := fun _ => fun
  | [d1, d2] => { results := [.lit (.bool true)], args := [d1, d2] }
  | _ => none }
def fnExactVoteRecordRow : OpenClaim := { program := "ytipcdioolafkpag", sum := "43edc25846492a95207bdecce76b4d82848dd1149d8e1324612d55d34ce5e28d", func := "loop.example/g00142/laws.FnExactVoteRecord", spec := "fnExactVoteRecord", unfollowed := true, recurses := true, apart := false }
def FnExactVoteRecordSaid : Prop := fnExactVoteRecordRow.holds Try.pinned (OpenSpec.ofChange fnExactVoteRecordSpec)

/-- ITS FALSE NEIGHBOUR: 'it returns false'. Refute it at one input. -/
def fnExactVoteRecordWrong : ChangeSpec := { name := "fnExactVoteRecord", fn := fun _ => fun
  | [d1, d2] => { results := [.lit (.bool false)], args := [d1, d2] }
  | _ => none }
def FnExactVoteRecordWrongFalsely : Prop := fnExactVoteRecordRow.holds Try.pinned (OpenSpec.ofChange fnExactVoteRecordWrong)

/-- 'laws.FnExactEntryRecord': WHATEVER THE INPUT: true; the input reads as it did. -/
def fnExactEntryRecordSpec : ChangeSpec := { name := "fnExactEntryRecord", fn := fun _ => fun
  | [d] => { results := [.lit (.bool true)], args := [d] }
  | _ => none }
def fnExactEntryRecordRow : OpenClaim := { program := "ytipcdioolafkpag", sum := "43edc25846492a95207bdecce76b4d82848dd1149d8e1324612d55d34ce5e28d", func := "loop.example/g00142/laws.FnExactEntryRecord", spec := "fnExactEntryRecord", unfollowed := true, recurses := true, apart := false }
def FnExactEntryRecordSaid : Prop := fnExactEntryRecordRow.holds Try.pinned (OpenSpec.ofChange fnExactEntryRecordSpec)

/-- ITS FALSE NEIGHBOUR: 'it returns false'. Refute it at one input. -/
def fnExactEntryRecordWrong : ChangeSpec := { name := "fnExactEntryRecord", fn := fun _ => fun
  | [d] => { results := [.lit (.bool false)], args := [d] }
  | _ => none }
def FnExactEntryRecordWrongFalsely : Prop := fnExactEntryRecordRow.holds Try.pinned (OpenSpec.ofChange fnExactEntryRecordWrong)

/-- 'laws.FnExactBaseRecord': WHATEVER THE INPUT: true; the input reads as it did. -/
def fnExactBaseRecordSpec : ChangeSpec := { name := "fnExactBaseRecord", fn := fun _ => fun
  | [d1, d2] => { results := [.lit (.bool true)], args := [d1, d2] }
  | _ => none }
def fnExactBaseRecordRow : OpenClaim := { program := "ytipcdioolafkpag", sum := "43edc25846492a95207bdecce76b4d82848dd1149d8e1324612d55d34ce5e28d", func := "loop.example/g00142/laws.FnExactBaseRecord", spec := "fnExactBaseRecord", unfollowed := true, recurses := true, apart := false }
def FnExactBaseRecordSaid : Prop := fnExactBaseRecordRow.holds Try.pinned (OpenSpec.ofChange fnExactBaseRecordSpec)

/-- ITS FALSE NEIGHBOUR: 'it returns false'. Refute it at one input. -/
def fnExactBaseRecordWrong : ChangeSpec := { name := "fnExactBaseRecord", fn := fun _ => fun
  | [d1, d2] => { results := [.lit (.bool false)], args := [d1, d2] }
  | _ => none }
def FnExactBaseRecordWrongFalsely : Prop := fnExactBaseRecordRow.holds Try.pinned (OpenSpec.ofChange fnExactBaseRecordWrong)

/-- 'laws.FnExactRecover': WHATEVER THE INPUT: true; the input reads as it did. -/
def fnExactRecoverSpec : ChangeSpec := { name := "fnExactRecover", fn := fun _ => fun
  | [d] => { results := [.lit (.bool true)], args := [d] }
  | _ => none }
def fnExactRecoverRow : OpenClaim := { program := "ytipcdioolafkpag", sum := "43edc25846492a95207bdecce76b4d82848dd1149d8e1324612d55d34ce5e28d", func := "loop.example/g00142/laws.FnExactRecover", spec := "fnExactRecover", unfollowed := true, recurses := true, apart := false }
def FnExactRecoverSaid : Prop := fnExactRecoverRow.holds Try.pinned (OpenSpec.ofChange fnExactRecoverSpec)

/-- ITS FALSE NEIGHBOUR: 'it returns false'. Refute it at one input. -/
def fnExactRecoverWrong : ChangeSpec := { name := "fnExactRecover", fn := fun _ => fun
  | [d] => { results := [.lit (.bool false)], args := [d] }
  | _ => none }
def FnExactRecoverWrongFalsely : Prop := fnExactRecoverRow.holds Try.pinned (OpenSpec.ofChange fnExactRecoverWrong)

/-- 'laws.FnExactWalOf': WHATEVER THE INPUT: true; the input reads as it did. -/
def fnExactWalOfSpec : ChangeSpec := { name := "fnExactWalOf", fn := fun _ => fun
  | [d] => { results := [.lit (.bool true)], args := [d] }
  | _ => none }
def fnExactWalOfRow : OpenClaim := { program := "ytipcdioolafkpag", sum := "43edc25846492a95207bdecce76b4d82848dd1149d8e1324612d55d34ce5e28d", func := "loop.example/g00142/laws.FnExactWalOf", spec := "fnExactWalOf", unfollowed := true, recurses := true, apart := false }
def FnExactWalOfSaid : Prop := fnExactWalOfRow.holds Try.pinned (OpenSpec.ofChange fnExactWalOfSpec)

/-- ITS FALSE NEIGHBOUR: 'it returns false'. Refute it at one input. -/
def fnExactWalOfWrong : ChangeSpec := { name := "fnExactWalOf", fn := fun _ => fun
  | [d] => { results := [.lit (.bool false)], args := [d] }
  | _ => none }
def FnExactWalOfWrongFalsely : Prop := fnExactWalOfRow.holds Try.pinned (OpenSpec.ofChange fnExactWalOfWrong)

/- THE SECOND FORM. 'bulk': how many values and letters a reading holds, each counted each time it is reached (what is shared counts as often as it is met; a slice's spare places count too). A statement '..UptoSaid' is the law's where the arguments, and the package variables that the reading takes, are together of bulk at most 1048576: NARROWER than '..Said'. Prove '..Said' where nothing that the law and all that it calls make is longer than what came in: it says more and counts as full. Else prove '..UptoSaid'. A law counts once. -/
mutual
def uptoBulk {H : Type} : DataW H → Nat
  | .lit (.string bytes) => bytes.length + 1
  | .lit _ => 1
  | .nil => 1
  | .ptr d => uptoBulk d + 1
  | .slice elems spare => uptoBulkAll elems + uptoBulkAll spare + 1
  | .agg parts => uptoBulkAll parts + 1
  | .iface _ d => uptoBulk d + 1
  | .map entries => uptoBulkEntries entries + 1
  | .held _ => 1
def uptoBulkAll {H : Type} : List (DataW H) → Nat
  | [] => 0
  | d :: r => uptoBulk d + uptoBulkAll r
def uptoBulkEntries {H : Type} : List (Lit × DataW H) → Nat
  | [] => 0
  | x :: r => uptoBulkEntry x + uptoBulkEntries r
def uptoBulkEntry {H : Type} : Lit × DataW H → Nat
  | (.string bytes, d) => bytes.length + uptoBulk d + 1
  | (_, d) => uptoBulk d + 1
 end
def uptoSmall : (H : Type) → List (DataW H) → Bool := fun _ ds => decide (uptoBulkAll ds ≤ 1048576)
def OpenSpec.upto (s : _root_.Go.ChangeSpec) : _root_.Go.OpenSpec := { _root_.Go.OpenSpec.ofChange s with cond := some uptoSmall }

/-- 'laws.FnExactDiskCrash', WHERE WHAT IT READS IS OF BULK AT MOST 1048576: true; the input reads as it did. -/
def fnExactDiskCrashUptoRow : OpenClaim := { program := "ytipcdioolafkpag", sum := "43edc25846492a95207bdecce76b4d82848dd1149d8e1324612d55d34ce5e28d", func := "loop.example/g00142/laws.FnExactDiskCrash", spec := "fnExactDiskCrash", apart := false, narrowed := true }
def FnExactDiskCrashUptoSaid : Prop := fnExactDiskCrashUptoRow.holds Try.pinned (OpenSpec.upto fnExactDiskCrashSpec)

/-- 'laws.FnExactVoteRecord', WHERE WHAT IT READS IS OF BULK AT MOST 1048576: true; the input reads as it did. -/
def fnExactVoteRecordUptoRow : OpenClaim := { program := "ytipcdioolafkpag", sum := "43edc25846492a95207bdecce76b4d82848dd1149d8e1324612d55d34ce5e28d", func := "loop.example/g00142/laws.FnExactVoteRecord", spec := "fnExactVoteRecord", unfollowed := true, recurses := true, apart := false, narrowed := true }
def FnExactVoteRecordUptoSaid : Prop := fnExactVoteRecordUptoRow.holds Try.pinned (OpenSpec.upto fnExactVoteRecordSpec)

/-- 'laws.FnExactEntryRecord', WHERE WHAT IT READS IS OF BULK AT MOST 1048576: true; the input reads as it did. -/
def fnExactEntryRecordUptoRow : OpenClaim := { program := "ytipcdioolafkpag", sum := "43edc25846492a95207bdecce76b4d82848dd1149d8e1324612d55d34ce5e28d", func := "loop.example/g00142/laws.FnExactEntryRecord", spec := "fnExactEntryRecord", unfollowed := true, recurses := true, apart := false, narrowed := true }
def FnExactEntryRecordUptoSaid : Prop := fnExactEntryRecordUptoRow.holds Try.pinned (OpenSpec.upto fnExactEntryRecordSpec)

/-- 'laws.FnExactBaseRecord', WHERE WHAT IT READS IS OF BULK AT MOST 1048576: true; the input reads as it did. -/
def fnExactBaseRecordUptoRow : OpenClaim := { program := "ytipcdioolafkpag", sum := "43edc25846492a95207bdecce76b4d82848dd1149d8e1324612d55d34ce5e28d", func := "loop.example/g00142/laws.FnExactBaseRecord", spec := "fnExactBaseRecord", unfollowed := true, recurses := true, apart := false, narrowed := true }
def FnExactBaseRecordUptoSaid : Prop := fnExactBaseRecordUptoRow.holds Try.pinned (OpenSpec.upto fnExactBaseRecordSpec)

/-- 'laws.FnExactRecover', WHERE WHAT IT READS IS OF BULK AT MOST 1048576: true; the input reads as it did. -/
def fnExactRecoverUptoRow : OpenClaim := { program := "ytipcdioolafkpag", sum := "43edc25846492a95207bdecce76b4d82848dd1149d8e1324612d55d34ce5e28d", func := "loop.example/g00142/laws.FnExactRecover", spec := "fnExactRecover", unfollowed := true, recurses := true, apart := false, narrowed := true }
def FnExactRecoverUptoSaid : Prop := fnExactRecoverUptoRow.holds Try.pinned (OpenSpec.upto fnExactRecoverSpec)

/-- 'laws.FnExactWalOf', WHERE WHAT IT READS IS OF BULK AT MOST 1048576: true; the input reads as it did. -/
def fnExactWalOfUptoRow : OpenClaim := { program := "ytipcdioolafkpag", sum := "43edc25846492a95207bdecce76b4d82848dd1149d8e1324612d55d34ce5e28d", func := "loop.example/g00142/laws.FnExactWalOf", spec := "fnExactWalOf", unfollowed := true, recurses := true, apart := false, narrowed := true }
def FnExactWalOfUptoSaid : Prop := fnExactWalOfUptoRow.holds Try.pinned (OpenSpec.upto fnExactWalOfSpec)

end Rows
end Go.Proofs.Ytipcdioolafkpag
