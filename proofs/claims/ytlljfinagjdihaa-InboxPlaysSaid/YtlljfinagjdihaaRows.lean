/-
  No cell of these rows narrows 'for every input' (looked for: loops, veiled, ifaces, maps, wideKeys, modest, calm, conditions, laid).
  DERIVED. THE GIVEN ROWS OF THIS SEAT. 6 by the template 'for every input the law returns true; each argument reads behind the call as it read before'; 0 by the template 'total and deterministic' (their statements: YtlljfinagjdihaaTotals.lean).
  GIVEN WITH THE SEED: the statements are not yours to turn. If you find one false, say at which input.
  Laid BY PROGRAM, IN A SANDBOX (cutbox-rows.mjs): the forced cells as the released guide's own fill.sh prints them over the translation 50483a4c0e7c1723… (all of the seat's roots in one cut). By AI agents, Wed Nov 11 2026. No macro, syntax, notation, axiom, sorry.
-/
import Derived.Test.YtlljfinagjdihaaChecked
import GoSem.Claim
import GoSem.ClaimJoined
import GoSem.ClaimMapViews
import Derived.JoinedTies
import Derived.KernelRfl
namespace Go.Proofs.Ytlljfinagjdihaa
/- THE CELL 'sum', in the pinned program and in every row, IS THE sha256 OF THE DUMP (.gsa) THAT YtlljfinagjdihaaProg.lean LOADS. Nothing in Lean hashes anything: it is a label: what it is worth is what the hold of that sum in a sandbox is worth. -/
noncomputable def Try.pinned : Pinned := { name := "ytlljfinagjdihaa", sum := "50483a4c0e7c17239d898d06c004144dfc1641c41f4df9ccc21e28faf1309ee4", checked := Try.checked }
namespace Rows
def none {H : Type} : Left H := { results := [], args := [] }

/-- 'haulierlaw16.InboxWindow': WHATEVER THE INPUT: true; the input reads as it did. -/
def inboxWindowSpec : ChangeSpec := { name := "inboxWindow", fn := fun _ => fun
  | [d1, d2, d3] => { results := [.lit (.bool true)], args := [d1, d2, d3] }
  | _ => none }
def inboxWindowRow : OpenClaim := { program := "ytlljfinagjdihaa", sum := "50483a4c0e7c17239d898d06c004144dfc1641c41f4df9ccc21e28faf1309ee4", func := "haulier/haulierlaw16.InboxWindow", spec := "inboxWindow", inPlace := ["slices.overlaps[haulier/ranges.Range]"], unfollowed := true, recurses := true, apart := false }
def InboxWindowSaid : Prop := inboxWindowRow.holds Try.pinned (OpenSpec.ofChange inboxWindowSpec)

/-- ITS FALSE NEIGHBOUR: 'it returns false'. Refute it at one input. -/
def inboxWindowWrong : ChangeSpec := { name := "inboxWindow", fn := fun _ => fun
  | [d1, d2, d3] => { results := [.lit (.bool false)], args := [d1, d2, d3] }
  | _ => none }
def InboxWindowWrongFalsely : Prop := inboxWindowRow.holds Try.pinned (OpenSpec.ofChange inboxWindowWrong)

/-- 'haulierlaw16.InboxGaps': WHATEVER THE INPUT: true; the input reads as it did. -/
def inboxGapsSpec : ChangeSpec := { name := "inboxGaps", fn := fun _ => fun
  | [d1, d2, d3] => { results := [.lit (.bool true)], args := [d1, d2, d3] }
  | _ => none }
def inboxGapsRow : OpenClaim := { program := "ytlljfinagjdihaa", sum := "50483a4c0e7c17239d898d06c004144dfc1641c41f4df9ccc21e28faf1309ee4", func := "haulier/haulierlaw16.InboxGaps", spec := "inboxGaps", inPlace := ["slices.overlaps[haulier/ranges.Range]"], unfollowed := true, recurses := true, apart := false }
def InboxGapsSaid : Prop := inboxGapsRow.holds Try.pinned (OpenSpec.ofChange inboxGapsSpec)

/-- ITS FALSE NEIGHBOUR: 'it returns false'. Refute it at one input. -/
def inboxGapsWrong : ChangeSpec := { name := "inboxGaps", fn := fun _ => fun
  | [d1, d2, d3] => { results := [.lit (.bool false)], args := [d1, d2, d3] }
  | _ => none }
def InboxGapsWrongFalsely : Prop := inboxGapsRow.holds Try.pinned (OpenSpec.ofChange inboxGapsWrong)

/-- 'haulierlaw16.InboxEnds': WHATEVER THE INPUT: true; the input reads as it did. -/
def inboxEndsSpec : ChangeSpec := { name := "inboxEnds", fn := fun _ => fun
  | [d] => { results := [.lit (.bool true)], args := [d] }
  | _ => none }
def inboxEndsRow : OpenClaim := { program := "ytlljfinagjdihaa", sum := "50483a4c0e7c17239d898d06c004144dfc1641c41f4df9ccc21e28faf1309ee4", func := "haulier/haulierlaw16.InboxEnds", spec := "inboxEnds", inPlace := ["slices.overlaps[haulier/ranges.Range]"], unfollowed := true, recurses := true, apart := false }
def InboxEndsSaid : Prop := inboxEndsRow.holds Try.pinned (OpenSpec.ofChange inboxEndsSpec)

/-- ITS FALSE NEIGHBOUR: 'it returns false'. Refute it at one input. -/
def inboxEndsWrong : ChangeSpec := { name := "inboxEnds", fn := fun _ => fun
  | [d] => { results := [.lit (.bool false)], args := [d] }
  | _ => none }
def InboxEndsWrongFalsely : Prop := inboxEndsRow.holds Try.pinned (OpenSpec.ofChange inboxEndsWrong)

/-- 'haulierlaw16.InboxPlays': WHATEVER THE INPUT: true; the input reads as it did. -/
def inboxPlaysSpec : ChangeSpec := { name := "inboxPlays", fn := fun _ => fun
  | [d1, d2] => { results := [.lit (.bool true)], args := [d1, d2] }
  | _ => none }
def inboxPlaysRow : OpenClaim := { program := "ytlljfinagjdihaa", sum := "50483a4c0e7c17239d898d06c004144dfc1641c41f4df9ccc21e28faf1309ee4", func := "haulier/haulierlaw16.InboxPlays", spec := "inboxPlays", inPlace := ["slices.overlaps[haulier/ranges.Range]"], unfollowed := true, recurses := true, apart := false }
def InboxPlaysSaid : Prop := inboxPlaysRow.holds Try.pinned (OpenSpec.ofChange inboxPlaysSpec)

/-- ITS FALSE NEIGHBOUR: 'it returns false'. Refute it at one input. -/
def inboxPlaysWrong : ChangeSpec := { name := "inboxPlays", fn := fun _ => fun
  | [d1, d2] => { results := [.lit (.bool false)], args := [d1, d2] }
  | _ => none }
def InboxPlaysWrongFalsely : Prop := inboxPlaysRow.holds Try.pinned (OpenSpec.ofChange inboxPlaysWrong)

/-- 'haulierlaw16.InboxWhole': WHATEVER THE INPUT: true; the input reads as it did. -/
def inboxWholeSpec : ChangeSpec := { name := "inboxWhole", fn := fun _ => fun
  | [d1, d2, d3, d4] => { results := [.lit (.bool true)], args := [d1, d2, d3, d4] }
  | _ => none }
def inboxWholeRow : OpenClaim := { program := "ytlljfinagjdihaa", sum := "50483a4c0e7c17239d898d06c004144dfc1641c41f4df9ccc21e28faf1309ee4", func := "haulier/haulierlaw16.InboxWhole", spec := "inboxWhole", inPlace := ["slices.overlaps[haulier/ranges.Range]"], unfollowed := true, recurses := true, apart := false }
def InboxWholeSaid : Prop := inboxWholeRow.holds Try.pinned (OpenSpec.ofChange inboxWholeSpec)

/-- ITS FALSE NEIGHBOUR: 'it returns false'. Refute it at one input. -/
def inboxWholeWrong : ChangeSpec := { name := "inboxWhole", fn := fun _ => fun
  | [d1, d2, d3, d4] => { results := [.lit (.bool false)], args := [d1, d2, d3, d4] }
  | _ => none }
def InboxWholeWrongFalsely : Prop := inboxWholeRow.holds Try.pinned (OpenSpec.ofChange inboxWholeWrong)

/-- 'haulierlaw16.InboxFirst': WHATEVER THE INPUT: true; the input reads as it did. -/
def inboxFirstSpec : ChangeSpec := { name := "inboxFirst", fn := fun _ => fun
  | [d1, d2, d3, d4] => { results := [.lit (.bool true)], args := [d1, d2, d3, d4] }
  | _ => none }
def inboxFirstRow : OpenClaim := { program := "ytlljfinagjdihaa", sum := "50483a4c0e7c17239d898d06c004144dfc1641c41f4df9ccc21e28faf1309ee4", func := "haulier/haulierlaw16.InboxFirst", spec := "inboxFirst", inPlace := ["slices.overlaps[haulier/ranges.Range]"], unfollowed := true, recurses := true, apart := false }
def InboxFirstSaid : Prop := inboxFirstRow.holds Try.pinned (OpenSpec.ofChange inboxFirstSpec)

/-- ITS FALSE NEIGHBOUR: 'it returns false'. Refute it at one input. -/
def inboxFirstWrong : ChangeSpec := { name := "inboxFirst", fn := fun _ => fun
  | [d1, d2, d3, d4] => { results := [.lit (.bool false)], args := [d1, d2, d3, d4] }
  | _ => none }
def InboxFirstWrongFalsely : Prop := inboxFirstRow.holds Try.pinned (OpenSpec.ofChange inboxFirstWrong)

/- THE SECOND FORM. 'bulk': how many values and letters a reading holds, each counted each time it is reached (what is shared counts as often as it is met; a slice's spare places count too). A statement '..UptoSaid' is the law's where the arguments, and the package variables that the reading takes, are together of bulk at most 1048576: NARROWER than '..Said'. Prove '..Said' where nothing that the law and all that it calls make is longer than what came in: it says more and counts as full. Else prove '..UptoSaid'. A law counts once. -/
mutual
def uptoBulk {H : Type} : DataW H → Nat
  | .lit (.string bytes) => bytes.length + 1
  | .lit _ => 1
  | .nil => 1
  | .ptr d => uptoBulk d + 1
  | .slice elems spare => uptoBulkAll elems + uptoBulkAll spare + 1
  | .agg parts => uptoBulkAll parts + 1
  | .iface _ d => uptoBulk d + 1
  | .map entries => uptoBulkEntries entries + 1
  | .held _ => 1
def uptoBulkAll {H : Type} : List (DataW H) → Nat
  | [] => 0
  | d :: r => uptoBulk d + uptoBulkAll r
def uptoBulkEntries {H : Type} : List (Lit × DataW H) → Nat
  | [] => 0
  | x :: r => uptoBulkEntry x + uptoBulkEntries r
def uptoBulkEntry {H : Type} : Lit × DataW H → Nat
  | (.string bytes, d) => bytes.length + uptoBulk d + 1
  | (_, d) => uptoBulk d + 1
 end
def uptoSmall : (H : Type) → List (DataW H) → Bool := fun _ ds => decide (uptoBulkAll ds ≤ 1048576)
def OpenSpec.upto (s : _root_.Go.ChangeSpec) : _root_.Go.OpenSpec := { _root_.Go.OpenSpec.ofChange s with cond := some uptoSmall }

/-- 'haulierlaw16.InboxWindow', WHERE WHAT IT READS IS OF BULK AT MOST 1048576: true; the input reads as it did. -/
def inboxWindowUptoRow : OpenClaim := { program := "ytlljfinagjdihaa", sum := "50483a4c0e7c17239d898d06c004144dfc1641c41f4df9ccc21e28faf1309ee4", func := "haulier/haulierlaw16.InboxWindow", spec := "inboxWindow", inPlace := ["slices.overlaps[haulier/ranges.Range]"], unfollowed := true, recurses := true, apart := false, narrowed := true }
def InboxWindowUptoSaid : Prop := inboxWindowUptoRow.holds Try.pinned (OpenSpec.upto inboxWindowSpec)

/-- 'haulierlaw16.InboxGaps', WHERE WHAT IT READS IS OF BULK AT MOST 1048576: true; the input reads as it did. -/
def inboxGapsUptoRow : OpenClaim := { program := "ytlljfinagjdihaa", sum := "50483a4c0e7c17239d898d06c004144dfc1641c41f4df9ccc21e28faf1309ee4", func := "haulier/haulierlaw16.InboxGaps", spec := "inboxGaps", inPlace := ["slices.overlaps[haulier/ranges.Range]"], unfollowed := true, recurses := true, apart := false, narrowed := true }
def InboxGapsUptoSaid : Prop := inboxGapsUptoRow.holds Try.pinned (OpenSpec.upto inboxGapsSpec)

/-- 'haulierlaw16.InboxEnds', WHERE WHAT IT READS IS OF BULK AT MOST 1048576: true; the input reads as it did. -/
def inboxEndsUptoRow : OpenClaim := { program := "ytlljfinagjdihaa", sum := "50483a4c0e7c17239d898d06c004144dfc1641c41f4df9ccc21e28faf1309ee4", func := "haulier/haulierlaw16.InboxEnds", spec := "inboxEnds", inPlace := ["slices.overlaps[haulier/ranges.Range]"], unfollowed := true, recurses := true, apart := false, narrowed := true }
def InboxEndsUptoSaid : Prop := inboxEndsUptoRow.holds Try.pinned (OpenSpec.upto inboxEndsSpec)

/-- 'haulierlaw16.InboxPlays', WHERE WHAT IT READS IS OF BULK AT MOST 1048576: true; the input reads as it did. -/
def inboxPlaysUptoRow : OpenClaim := { program := "ytlljfinagjdihaa", sum := "50483a4c0e7c17239d898d06c004144dfc1641c41f4df9ccc21e28faf1309ee4", func := "haulier/haulierlaw16.InboxPlays", spec := "inboxPlays", inPlace := ["slices.overlaps[haulier/ranges.Range]"], unfollowed := true, recurses := true, apart := false, narrowed := true }
def InboxPlaysUptoSaid : Prop := inboxPlaysUptoRow.holds Try.pinned (OpenSpec.upto inboxPlaysSpec)

/-- 'haulierlaw16.InboxWhole', WHERE WHAT IT READS IS OF BULK AT MOST 1048576: true; the input reads as it did. -/
def inboxWholeUptoRow : OpenClaim := { program := "ytlljfinagjdihaa", sum := "50483a4c0e7c17239d898d06c004144dfc1641c41f4df9ccc21e28faf1309ee4", func := "haulier/haulierlaw16.InboxWhole", spec := "inboxWhole", inPlace := ["slices.overlaps[haulier/ranges.Range]"], unfollowed := true, recurses := true, apart := false, narrowed := true }
def InboxWholeUptoSaid : Prop := inboxWholeUptoRow.holds Try.pinned (OpenSpec.upto inboxWholeSpec)

/-- 'haulierlaw16.InboxFirst', WHERE WHAT IT READS IS OF BULK AT MOST 1048576: true; the input reads as it did. -/
def inboxFirstUptoRow : OpenClaim := { program := "ytlljfinagjdihaa", sum := "50483a4c0e7c17239d898d06c004144dfc1641c41f4df9ccc21e28faf1309ee4", func := "haulier/haulierlaw16.InboxFirst", spec := "inboxFirst", inPlace := ["slices.overlaps[haulier/ranges.Range]"], unfollowed := true, recurses := true, apart := false, narrowed := true }
def InboxFirstUptoSaid : Prop := inboxFirstUptoRow.holds Try.pinned (OpenSpec.upto inboxFirstSpec)

end Rows
end Go.Proofs.Ytlljfinagjdihaa
