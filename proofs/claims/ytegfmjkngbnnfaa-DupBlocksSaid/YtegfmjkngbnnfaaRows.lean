/-
  No cell of these rows narrows 'for every input' (looked for: loops, veiled, ifaces, maps, wideKeys, modest, calm, conditions, laid).
  DERIVED. THE GIVEN ROWS OF THIS SEAT. 4 by the template 'for every input the law returns true; each argument reads behind the call as it read before'; 0 by the template 'total and deterministic' (their statements: YtegfmjkngbnnfaaTotals.lean).
  GIVEN WITH THE SEED: the statements are not yours to turn. If you find one false, say at which input.
  Laid BY PROGRAM, IN A SANDBOX (cutbox-rows.mjs): the forced cells as the released guide's own fill.sh prints them over the translation 45808d472a7ec116… (all of the seat's roots in one cut). By AI agents, Wed Nov 11 2026. No macro, syntax, notation, axiom, sorry.
-/
import Derived.Test.YtegfmjkngbnnfaaChecked
import GoSem.Claim
import GoSem.ClaimJoined
import GoSem.ClaimMapViews
import Derived.JoinedTies
import Derived.KernelRfl
namespace Go.Proofs.Ytegfmjkngbnnfaa
/- THE CELL 'sum', in the pinned program and in every row, IS THE sha256 OF THE DUMP (.gsa) THAT YtegfmjkngbnnfaaProg.lean LOADS. Nothing in Lean hashes anything: it is a label: what it is worth is what the hold of that sum in a sandbox is worth. -/
noncomputable def Try.pinned : Pinned := { name := "ytegfmjkngbnnfaa", sum := "45808d472a7ec116a52e9f7758d6f0b7ff5ac90d7ca1e2a9cfc0ca9ec8bab62c", checked := Try.checked }
namespace Rows
def none {H : Type} : Left H := { results := [], args := [] }

/-- 'undertowlaw10.DupLooks': WHATEVER THE INPUT: true; the input reads as it did. -/
def dupLooksSpec : ChangeSpec := { name := "dupLooks", fn := fun _ => fun
  | [d1, d2, d3, d4] => { results := [.lit (.bool true)], args := [d1, d2, d3, d4] }
  | _ => none }
def dupLooksRow : OpenClaim := { program := "ytegfmjkngbnnfaa", sum := "45808d472a7ec116a52e9f7758d6f0b7ff5ac90d7ca1e2a9cfc0ca9ec8bab62c", func := "undertow/undertowlaw10.DupLooks", spec := "dupLooks", unfollowed := true, recurses := true, apart := false }
def DupLooksSaid : Prop := dupLooksRow.holds Try.pinned (OpenSpec.ofChange dupLooksSpec)

/-- ITS FALSE NEIGHBOUR: 'it returns false'. Refute it at one input. -/
def dupLooksWrong : ChangeSpec := { name := "dupLooks", fn := fun _ => fun
  | [d1, d2, d3, d4] => { results := [.lit (.bool false)], args := [d1, d2, d3, d4] }
  | _ => none }
def DupLooksWrongFalsely : Prop := dupLooksRow.holds Try.pinned (OpenSpec.ofChange dupLooksWrong)

/-- 'undertowlaw10.DupBlocks': WHATEVER THE INPUT: true; the input reads as it did. -/
def dupBlocksSpec : ChangeSpec := { name := "dupBlocks", fn := fun _ => fun
  | [d1, d2, d3] => { results := [.lit (.bool true)], args := [d1, d2, d3] }
  | _ => none }
def dupBlocksRow : OpenClaim := { program := "ytegfmjkngbnnfaa", sum := "45808d472a7ec116a52e9f7758d6f0b7ff5ac90d7ca1e2a9cfc0ca9ec8bab62c", func := "undertow/undertowlaw10.DupBlocks", spec := "dupBlocks", unfollowed := true, recurses := true, apart := false }
def DupBlocksSaid : Prop := dupBlocksRow.holds Try.pinned (OpenSpec.ofChange dupBlocksSpec)

/-- ITS FALSE NEIGHBOUR: 'it returns false'. Refute it at one input. -/
def dupBlocksWrong : ChangeSpec := { name := "dupBlocks", fn := fun _ => fun
  | [d1, d2, d3] => { results := [.lit (.bool false)], args := [d1, d2, d3] }
  | _ => none }
def DupBlocksWrongFalsely : Prop := dupBlocksRow.holds Try.pinned (OpenSpec.ofChange dupBlocksWrong)

/-- 'undertowlaw10.DupBack': WHATEVER THE INPUT: true; the input reads as it did. -/
def dupBackSpec : ChangeSpec := { name := "dupBack", fn := fun _ => fun
  | [d1, d2, d3, d4] => { results := [.lit (.bool true)], args := [d1, d2, d3, d4] }
  | _ => none }
def dupBackRow : OpenClaim := { program := "ytegfmjkngbnnfaa", sum := "45808d472a7ec116a52e9f7758d6f0b7ff5ac90d7ca1e2a9cfc0ca9ec8bab62c", func := "undertow/undertowlaw10.DupBack", spec := "dupBack", unfollowed := true, recurses := true, apart := false }
def DupBackSaid : Prop := dupBackRow.holds Try.pinned (OpenSpec.ofChange dupBackSpec)

/-- ITS FALSE NEIGHBOUR: 'it returns false'. Refute it at one input. -/
def dupBackWrong : ChangeSpec := { name := "dupBack", fn := fun _ => fun
  | [d1, d2, d3, d4] => { results := [.lit (.bool false)], args := [d1, d2, d3, d4] }
  | _ => none }
def DupBackWrongFalsely : Prop := dupBackRow.holds Try.pinned (OpenSpec.ofChange dupBackWrong)

/-- 'undertowlaw10.DupWithin': WHATEVER THE INPUT: true; the input reads as it did. -/
def dupWithinSpec : ChangeSpec := { name := "dupWithin", fn := fun _ => fun
  | [d1, d2, d3, d4] => { results := [.lit (.bool true)], args := [d1, d2, d3, d4] }
  | _ => none }
def dupWithinRow : OpenClaim := { program := "ytegfmjkngbnnfaa", sum := "45808d472a7ec116a52e9f7758d6f0b7ff5ac90d7ca1e2a9cfc0ca9ec8bab62c", func := "undertow/undertowlaw10.DupWithin", spec := "dupWithin", unfollowed := true, recurses := true, apart := false }
def DupWithinSaid : Prop := dupWithinRow.holds Try.pinned (OpenSpec.ofChange dupWithinSpec)

/-- ITS FALSE NEIGHBOUR: 'it returns false'. Refute it at one input. -/
def dupWithinWrong : ChangeSpec := { name := "dupWithin", fn := fun _ => fun
  | [d1, d2, d3, d4] => { results := [.lit (.bool false)], args := [d1, d2, d3, d4] }
  | _ => none }
def DupWithinWrongFalsely : Prop := dupWithinRow.holds Try.pinned (OpenSpec.ofChange dupWithinWrong)

/- THE SECOND FORM. 'bulk': how many values and letters a reading holds, each counted each time it is reached (what is shared counts as often as it is met; a slice's spare places count too). A statement '..UptoSaid' is the law's where the arguments, and the package variables that the reading takes, are together of bulk at most 1048576: NARROWER than '..Said'. Prove '..Said' where nothing that the law and all that it calls make is longer than what came in: it says more and counts as full. Else prove '..UptoSaid'. A law counts once. -/
mutual
def uptoBulk {H : Type} : DataW H → Nat
  | .lit (.string bytes) => bytes.length + 1
  | .lit _ => 1
  | .nil => 1
  | .ptr d => uptoBulk d + 1
  | .slice elems spare => uptoBulkAll elems + uptoBulkAll spare + 1
  | .agg parts => uptoBulkAll parts + 1
  | .iface _ d => uptoBulk d + 1
  | .map entries => uptoBulkEntries entries + 1
  | .held _ => 1
def uptoBulkAll {H : Type} : List (DataW H) → Nat
  | [] => 0
  | d :: r => uptoBulk d + uptoBulkAll r
def uptoBulkEntries {H : Type} : List (Lit × DataW H) → Nat
  | [] => 0
  | x :: r => uptoBulkEntry x + uptoBulkEntries r
def uptoBulkEntry {H : Type} : Lit × DataW H → Nat
  | (.string bytes, d) => bytes.length + uptoBulk d + 1
  | (_, d) => uptoBulk d + 1
 end
def uptoSmall : (H : Type) → List (DataW H) → Bool := fun _ ds => decide (uptoBulkAll ds ≤ 1048576)
def OpenSpec.upto (s : _root_.Go.ChangeSpec) : _root_.Go.OpenSpec := { _root_.Go.OpenSpec.ofChange s with cond := some uptoSmall }

/-- 'undertowlaw10.DupLooks', WHERE WHAT IT READS IS OF BULK AT MOST 1048576: true; the input reads as it did. -/
def dupLooksUptoRow : OpenClaim := { program := "ytegfmjkngbnnfaa", sum := "45808d472a7ec116a52e9f7758d6f0b7ff5ac90d7ca1e2a9cfc0ca9ec8bab62c", func := "undertow/undertowlaw10.DupLooks", spec := "dupLooks", unfollowed := true, recurses := true, apart := false, narrowed := true }
def DupLooksUptoSaid : Prop := dupLooksUptoRow.holds Try.pinned (OpenSpec.upto dupLooksSpec)

/-- 'undertowlaw10.DupBlocks', WHERE WHAT IT READS IS OF BULK AT MOST 1048576: true; the input reads as it did. -/
def dupBlocksUptoRow : OpenClaim := { program := "ytegfmjkngbnnfaa", sum := "45808d472a7ec116a52e9f7758d6f0b7ff5ac90d7ca1e2a9cfc0ca9ec8bab62c", func := "undertow/undertowlaw10.DupBlocks", spec := "dupBlocks", unfollowed := true, recurses := true, apart := false, narrowed := true }
def DupBlocksUptoSaid : Prop := dupBlocksUptoRow.holds Try.pinned (OpenSpec.upto dupBlocksSpec)

/-- 'undertowlaw10.DupBack', WHERE WHAT IT READS IS OF BULK AT MOST 1048576: true; the input reads as it did. -/
def dupBackUptoRow : OpenClaim := { program := "ytegfmjkngbnnfaa", sum := "45808d472a7ec116a52e9f7758d6f0b7ff5ac90d7ca1e2a9cfc0ca9ec8bab62c", func := "undertow/undertowlaw10.DupBack", spec := "dupBack", unfollowed := true, recurses := true, apart := false, narrowed := true }
def DupBackUptoSaid : Prop := dupBackUptoRow.holds Try.pinned (OpenSpec.upto dupBackSpec)

/-- 'undertowlaw10.DupWithin', WHERE WHAT IT READS IS OF BULK AT MOST 1048576: true; the input reads as it did. -/
def dupWithinUptoRow : OpenClaim := { program := "ytegfmjkngbnnfaa", sum := "45808d472a7ec116a52e9f7758d6f0b7ff5ac90d7ca1e2a9cfc0ca9ec8bab62c", func := "undertow/undertowlaw10.DupWithin", spec := "dupWithin", unfollowed := true, recurses := true, apart := false, narrowed := true }
def DupWithinUptoSaid : Prop := dupWithinUptoRow.holds Try.pinned (OpenSpec.upto dupWithinSpec)

end Rows
end Go.Proofs.Ytegfmjkngbnnfaa
