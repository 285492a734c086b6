/-
  No cell of these rows narrows 'for every input' (looked for: loops, veiled, ifaces, maps, wideKeys, modest, calm, conditions, laid).
  DERIVED. THE GIVEN ROWS OF THIS SEAT. 7 by the template 'for every input the law returns true; each argument reads behind the call as it read before'; 0 by the template 'total and deterministic' (their statements: YtdadcbelbkhgoaaTotals.lean).
  GIVEN WITH THE SEED: the statements are not yours to turn. If you find one false, say at which input.
  Laid BY PROGRAM, IN A SANDBOX (cutbox-rows.mjs): the forced cells as the released guide's own fill.sh prints them over the translation c47ce98c73ff97cc… (all of the seat's roots in one cut). By AI agents, Wed Nov 11 2026. No macro, syntax, notation, axiom, sorry.
-/
import Derived.Test.YtdadcbelbkhgoaaChecked
import GoSem.Claim
import GoSem.ClaimJoined
import GoSem.ClaimMapViews
import Derived.JoinedTies
import Derived.KernelRfl
namespace Go.Proofs.Ytdadcbelbkhgoaa
/- THE CELL 'sum', in the pinned program and in every row, IS THE sha256 OF THE DUMP (.gsa) THAT YtdadcbelbkhgoaaProg.lean LOADS. Nothing in Lean hashes anything: it is a label: what it is worth is what the hold of that sum in a sandbox is worth. -/
noncomputable def Try.pinned : Pinned := { name := "ytdadcbelbkhgoaa", sum := "c47ce98c73ff97cce5e5db1e448462f6a08656e9c7fbf0fe0d0f78c5b9511046", checked := Try.checked }
namespace Rows
def none {H : Type} : Left H := { results := [], args := [] }

/-- 'undertowlaw07.RunsPlay': WHATEVER THE INPUT: true; the input reads as it did. -/
def runsPlaySpec : ChangeSpec := { name := "runsPlay", fn := fun _ => fun
  | [d1, d2, d3] => { results := [.lit (.bool true)], args := [d1, d2, d3] }
  | _ => none }
def runsPlayRow : OpenClaim := { program := "ytdadcbelbkhgoaa", sum := "c47ce98c73ff97cce5e5db1e448462f6a08656e9c7fbf0fe0d0f78c5b9511046", func := "undertow/undertowlaw07.RunsPlay", spec := "runsPlay", unfollowed := true, recurses := true, apart := false }
def RunsPlaySaid : Prop := runsPlayRow.holds Try.pinned (OpenSpec.ofChange runsPlaySpec)

/-- ITS FALSE NEIGHBOUR: 'it returns false'. Refute it at one input. -/
def runsPlayWrong : ChangeSpec := { name := "runsPlay", fn := fun _ => fun
  | [d1, d2, d3] => { results := [.lit (.bool false)], args := [d1, d2, d3] }
  | _ => none }
def RunsPlayWrongFalsely : Prop := runsPlayRow.holds Try.pinned (OpenSpec.ofChange runsPlayWrong)

/-- 'undertowlaw07.RunsOrder': WHATEVER THE INPUT: true; the input reads as it did. -/
def runsOrderSpec : ChangeSpec := { name := "runsOrder", fn := fun _ => fun
  | [d1, d2] => { results := [.lit (.bool true)], args := [d1, d2] }
  | _ => none }
def runsOrderRow : OpenClaim := { program := "ytdadcbelbkhgoaa", sum := "c47ce98c73ff97cce5e5db1e448462f6a08656e9c7fbf0fe0d0f78c5b9511046", func := "undertow/undertowlaw07.RunsOrder", spec := "runsOrder", unfollowed := true, recurses := true, apart := false }
def RunsOrderSaid : Prop := runsOrderRow.holds Try.pinned (OpenSpec.ofChange runsOrderSpec)

/-- ITS FALSE NEIGHBOUR: 'it returns false'. Refute it at one input. -/
def runsOrderWrong : ChangeSpec := { name := "runsOrder", fn := fun _ => fun
  | [d1, d2] => { results := [.lit (.bool false)], args := [d1, d2] }
  | _ => none }
def RunsOrderWrongFalsely : Prop := runsOrderRow.holds Try.pinned (OpenSpec.ofChange runsOrderWrong)

/-- 'undertowlaw07.RunsKeep': WHATEVER THE INPUT: true; the input reads as it did. -/
def runsKeepSpec : ChangeSpec := { name := "runsKeep", fn := fun _ => fun
  | [d1, d2, d3] => { results := [.lit (.bool true)], args := [d1, d2, d3] }
  | _ => none }
def runsKeepRow : OpenClaim := { program := "ytdadcbelbkhgoaa", sum := "c47ce98c73ff97cce5e5db1e448462f6a08656e9c7fbf0fe0d0f78c5b9511046", func := "undertow/undertowlaw07.RunsKeep", spec := "runsKeep", unfollowed := true, recurses := true, apart := false }
def RunsKeepSaid : Prop := runsKeepRow.holds Try.pinned (OpenSpec.ofChange runsKeepSpec)

/-- ITS FALSE NEIGHBOUR: 'it returns false'. Refute it at one input. -/
def runsKeepWrong : ChangeSpec := { name := "runsKeep", fn := fun _ => fun
  | [d1, d2, d3] => { results := [.lit (.bool false)], args := [d1, d2, d3] }
  | _ => none }
def RunsKeepWrongFalsely : Prop := runsKeepRow.holds Try.pinned (OpenSpec.ofChange runsKeepWrong)

/-- 'undertowlaw07.RunsWhole': WHATEVER THE INPUT: true; the input reads as it did. -/
def runsWholeSpec : ChangeSpec := { name := "runsWhole", fn := fun _ => fun
  | [d1, d2] => { results := [.lit (.bool true)], args := [d1, d2] }
  | _ => none }
def runsWholeRow : OpenClaim := { program := "ytdadcbelbkhgoaa", sum := "c47ce98c73ff97cce5e5db1e448462f6a08656e9c7fbf0fe0d0f78c5b9511046", func := "undertow/undertowlaw07.RunsWhole", spec := "runsWhole", unfollowed := true, recurses := true, apart := false }
def RunsWholeSaid : Prop := runsWholeRow.holds Try.pinned (OpenSpec.ofChange runsWholeSpec)

/-- ITS FALSE NEIGHBOUR: 'it returns false'. Refute it at one input. -/
def runsWholeWrong : ChangeSpec := { name := "runsWhole", fn := fun _ => fun
  | [d1, d2] => { results := [.lit (.bool false)], args := [d1, d2] }
  | _ => none }
def RunsWholeWrongFalsely : Prop := runsWholeRow.holds Try.pinned (OpenSpec.ofChange runsWholeWrong)

/-- 'undertowlaw07.RunsFull': WHATEVER THE INPUT: true; the input reads as it did. -/
def runsFullSpec : ChangeSpec := { name := "runsFull", fn := fun _ => fun
  | [d] => { results := [.lit (.bool true)], args := [d] }
  | _ => none }
def runsFullRow : OpenClaim := { program := "ytdadcbelbkhgoaa", sum := "c47ce98c73ff97cce5e5db1e448462f6a08656e9c7fbf0fe0d0f78c5b9511046", func := "undertow/undertowlaw07.RunsFull", spec := "runsFull", unfollowed := true, recurses := true, apart := false }
def RunsFullSaid : Prop := runsFullRow.holds Try.pinned (OpenSpec.ofChange runsFullSpec)

/-- ITS FALSE NEIGHBOUR: 'it returns false'. Refute it at one input. -/
def runsFullWrong : ChangeSpec := { name := "runsFull", fn := fun _ => fun
  | [d] => { results := [.lit (.bool false)], args := [d] }
  | _ => none }
def RunsFullWrongFalsely : Prop := runsFullRow.holds Try.pinned (OpenSpec.ofChange runsFullWrong)

/-- 'undertowlaw07.RunsNone': WHATEVER THE INPUT: true; the input reads as it did. -/
def runsNoneSpec : ChangeSpec := { name := "runsNone", fn := fun _ => fun
  | [d1, d2] => { results := [.lit (.bool true)], args := [d1, d2] }
  | _ => none }
def runsNoneRow : OpenClaim := { program := "ytdadcbelbkhgoaa", sum := "c47ce98c73ff97cce5e5db1e448462f6a08656e9c7fbf0fe0d0f78c5b9511046", func := "undertow/undertowlaw07.RunsNone", spec := "runsNone", unfollowed := true, recurses := true, apart := false }
def RunsNoneSaid : Prop := runsNoneRow.holds Try.pinned (OpenSpec.ofChange runsNoneSpec)

/-- ITS FALSE NEIGHBOUR: 'it returns false'. Refute it at one input. -/
def runsNoneWrong : ChangeSpec := { name := "runsNone", fn := fun _ => fun
  | [d1, d2] => { results := [.lit (.bool false)], args := [d1, d2] }
  | _ => none }
def RunsNoneWrongFalsely : Prop := runsNoneRow.holds Try.pinned (OpenSpec.ofChange runsNoneWrong)

/-- 'undertowlaw06.SpanCuts': WHATEVER THE INPUT: true; the input reads as it did. -/
def spanCutsSpec : ChangeSpec := { name := "spanCuts", fn := fun _ => fun
  | [d1, d2, d3] => { results := [.lit (.bool true)], args := [d1, d2, d3] }
  | _ => none }
def spanCutsRow : OpenClaim := { program := "ytdadcbelbkhgoaa", sum := "c47ce98c73ff97cce5e5db1e448462f6a08656e9c7fbf0fe0d0f78c5b9511046", func := "undertow/undertowlaw06.SpanCuts", spec := "spanCuts", unfollowed := true, recurses := true, apart := false }
def SpanCutsSaid : Prop := spanCutsRow.holds Try.pinned (OpenSpec.ofChange spanCutsSpec)

/-- ITS FALSE NEIGHBOUR: 'it returns false'. Refute it at one input. -/
def spanCutsWrong : ChangeSpec := { name := "spanCuts", fn := fun _ => fun
  | [d1, d2, d3] => { results := [.lit (.bool false)], args := [d1, d2, d3] }
  | _ => none }
def SpanCutsWrongFalsely : Prop := spanCutsRow.holds Try.pinned (OpenSpec.ofChange spanCutsWrong)

/- THE SECOND FORM. 'bulk': how many values and letters a reading holds, each counted each time it is reached (what is shared counts as often as it is met; a slice's spare places count too). A statement '..UptoSaid' is the law's where the arguments, and the package variables that the reading takes, are together of bulk at most 1048576: NARROWER than '..Said'. Prove '..Said' where nothing that the law and all that it calls make is longer than what came in: it says more and counts as full. Else prove '..UptoSaid'. A law counts once. -/
mutual
def uptoBulk {H : Type} : DataW H → Nat
  | .lit (.string bytes) => bytes.length + 1
  | .lit _ => 1
  | .nil => 1
  | .ptr d => uptoBulk d + 1
  | .slice elems spare => uptoBulkAll elems + uptoBulkAll spare + 1
  | .agg parts => uptoBulkAll parts + 1
  | .iface _ d => uptoBulk d + 1
  | .map entries => uptoBulkEntries entries + 1
  | .held _ => 1
def uptoBulkAll {H : Type} : List (DataW H) → Nat
  | [] => 0
  | d :: r => uptoBulk d + uptoBulkAll r
def uptoBulkEntries {H : Type} : List (Lit × DataW H) → Nat
  | [] => 0
  | x :: r => uptoBulkEntry x + uptoBulkEntries r
def uptoBulkEntry {H : Type} : Lit × DataW H → Nat
  | (.string bytes, d) => bytes.length + uptoBulk d + 1
  | (_, d) => uptoBulk d + 1
 end
def uptoSmall : (H : Type) → List (DataW H) → Bool := fun _ ds => decide (uptoBulkAll ds ≤ 1048576)
def OpenSpec.upto (s : _root_.Go.ChangeSpec) : _root_.Go.OpenSpec := { _root_.Go.OpenSpec.ofChange s with cond := some uptoSmall }

/-- 'undertowlaw07.RunsPlay', WHERE WHAT IT READS IS OF BULK AT MOST 1048576: true; the input reads as it did. -/
def runsPlayUptoRow : OpenClaim := { program := "ytdadcbelbkhgoaa", sum := "c47ce98c73ff97cce5e5db1e448462f6a08656e9c7fbf0fe0d0f78c5b9511046", func := "undertow/undertowlaw07.RunsPlay", spec := "runsPlay", unfollowed := true, recurses := true, apart := false, narrowed := true }
def RunsPlayUptoSaid : Prop := runsPlayUptoRow.holds Try.pinned (OpenSpec.upto runsPlaySpec)

/-- 'undertowlaw07.RunsOrder', WHERE WHAT IT READS IS OF BULK AT MOST 1048576: true; the input reads as it did. -/
def runsOrderUptoRow : OpenClaim := { program := "ytdadcbelbkhgoaa", sum := "c47ce98c73ff97cce5e5db1e448462f6a08656e9c7fbf0fe0d0f78c5b9511046", func := "undertow/undertowlaw07.RunsOrder", spec := "runsOrder", unfollowed := true, recurses := true, apart := false, narrowed := true }
def RunsOrderUptoSaid : Prop := runsOrderUptoRow.holds Try.pinned (OpenSpec.upto runsOrderSpec)

/-- 'undertowlaw07.RunsKeep', WHERE WHAT IT READS IS OF BULK AT MOST 1048576: true; the input reads as it did. -/
def runsKeepUptoRow : OpenClaim := { program := "ytdadcbelbkhgoaa", sum := "c47ce98c73ff97cce5e5db1e448462f6a08656e9c7fbf0fe0d0f78c5b9511046", func := "undertow/undertowlaw07.RunsKeep", spec := "runsKeep", unfollowed := true, recurses := true, apart := false, narrowed := true }
def RunsKeepUptoSaid : Prop := runsKeepUptoRow.holds Try.pinned (OpenSpec.upto runsKeepSpec)

/-- 'undertowlaw07.RunsWhole', WHERE WHAT IT READS IS OF BULK AT MOST 1048576: true; the input reads as it did. -/
def runsWholeUptoRow : OpenClaim := { program := "ytdadcbelbkhgoaa", sum := "c47ce98c73ff97cce5e5db1e448462f6a08656e9c7fbf0fe0d0f78c5b9511046", func := "undertow/undertowlaw07.RunsWhole", spec := "runsWhole", unfollowed := true, recurses := true, apart := false, narrowed := true }
def RunsWholeUptoSaid : Prop := runsWholeUptoRow.holds Try.pinned (OpenSpec.upto runsWholeSpec)

/-- 'undertowlaw07.RunsFull', WHERE WHAT IT READS IS OF BULK AT MOST 1048576: true; the input reads as it did. -/
def runsFullUptoRow : OpenClaim := { program := "ytdadcbelbkhgoaa", sum := "c47ce98c73ff97cce5e5db1e448462f6a08656e9c7fbf0fe0d0f78c5b9511046", func := "undertow/undertowlaw07.RunsFull", spec := "runsFull", unfollowed := true, recurses := true, apart := false, narrowed := true }
def RunsFullUptoSaid : Prop := runsFullUptoRow.holds Try.pinned (OpenSpec.upto runsFullSpec)

/-- 'undertowlaw07.RunsNone', WHERE WHAT IT READS IS OF BULK AT MOST 1048576: true; the input reads as it did. -/
def runsNoneUptoRow : OpenClaim := { program := "ytdadcbelbkhgoaa", sum := "c47ce98c73ff97cce5e5db1e448462f6a08656e9c7fbf0fe0d0f78c5b9511046", func := "undertow/undertowlaw07.RunsNone", spec := "runsNone", unfollowed := true, recurses := true, apart := false, narrowed := true }
def RunsNoneUptoSaid : Prop := runsNoneUptoRow.holds Try.pinned (OpenSpec.upto runsNoneSpec)

/-- 'undertowlaw06.SpanCuts', WHERE WHAT IT READS IS OF BULK AT MOST 1048576: true; the input reads as it did. -/
def spanCutsUptoRow : OpenClaim := { program := "ytdadcbelbkhgoaa", sum := "c47ce98c73ff97cce5e5db1e448462f6a08656e9c7fbf0fe0d0f78c5b9511046", func := "undertow/undertowlaw06.SpanCuts", spec := "spanCuts", unfollowed := true, recurses := true, apart := false, narrowed := true }
def SpanCutsUptoSaid : Prop := spanCutsUptoRow.holds Try.pinned (OpenSpec.upto spanCutsSpec)

end Rows
end Go.Proofs.Ytdadcbelbkhgoaa
