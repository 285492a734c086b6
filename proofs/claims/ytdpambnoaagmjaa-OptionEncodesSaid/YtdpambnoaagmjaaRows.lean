/-
  No cell of these rows narrows 'for every input' (looked for: loops, veiled, ifaces, maps, wideKeys, modest, calm, conditions, laid).
  DERIVED. THE GIVEN ROWS OF THIS SEAT. 9 by the template 'for every input the law returns true; each argument reads behind the call as it read before'; 0 by the template 'total and deterministic' (their statements: YtdpambnoaagmjaaTotals.lean).
  GIVEN WITH THE SEED: the statements are not yours to turn. If you find one false, say at which input.
  Laid BY PROGRAM, IN A SANDBOX (cutbox-rows.mjs): the forced cells as the released guide's own fill.sh prints them over the translation 8c47c5f8a343c3ed… (all of the seat's roots in one cut). By AI agents, Wed Nov 11 2026. No macro, syntax, notation, axiom, sorry.
-/
import Derived.Test.YtdpambnoaagmjaaChecked
import GoSem.Claim
import GoSem.ClaimJoined
import GoSem.ClaimMapViews
import Derived.JoinedTies
import Derived.KernelRfl
namespace Go.Proofs.Ytdpambnoaagmjaa
/- THE CELL 'sum', in the pinned program and in every row, IS THE sha256 OF THE DUMP (.gsa) THAT YtdpambnoaagmjaaProg.lean LOADS. Nothing in Lean hashes anything: it is a label: what it is worth is what the hold of that sum in a sandbox is worth. -/
noncomputable def Try.pinned : Pinned := { name := "ytdpambnoaagmjaa", sum := "8c47c5f8a343c3edb4cbb1d5d7c32aa9ba6aed24fd557f3b9aa66a10bd7b193d", checked := Try.checked }
namespace Rows
def none {H : Type} : Left H := { results := [], args := [] }

/-- 'undertowlaw03.SumOf': WHATEVER THE INPUT: true; the input reads as it did. -/
def sumOfSpec : ChangeSpec := { name := "sumOf", fn := fun _ => fun
  | [d1, d2, d3] => { results := [.lit (.bool true)], args := [d1, d2, d3] }
  | _ => none }
def sumOfRow : OpenClaim := { program := "ytdpambnoaagmjaa", sum := "8c47c5f8a343c3edb4cbb1d5d7c32aa9ba6aed24fd557f3b9aa66a10bd7b193d", func := "undertow/undertowlaw03.SumOf", spec := "sumOf", unfollowed := true, recurses := true, apart := false }
def SumOfSaid : Prop := sumOfRow.holds Try.pinned (OpenSpec.ofChange sumOfSpec)

/-- ITS FALSE NEIGHBOUR: 'it returns false'. Refute it at one input. -/
def sumOfWrong : ChangeSpec := { name := "sumOf", fn := fun _ => fun
  | [d1, d2, d3] => { results := [.lit (.bool false)], args := [d1, d2, d3] }
  | _ => none }
def SumOfWrongFalsely : Prop := sumOfRow.holds Try.pinned (OpenSpec.ofChange sumOfWrong)

/-- 'undertowlaw03.SumParts': WHATEVER THE INPUT: true; the input reads as it did. -/
def sumPartsSpec : ChangeSpec := { name := "sumParts", fn := fun _ => fun
  | [d1, d2] => { results := [.lit (.bool true)], args := [d1, d2] }
  | _ => none }
def sumPartsRow : OpenClaim := { program := "ytdpambnoaagmjaa", sum := "8c47c5f8a343c3edb4cbb1d5d7c32aa9ba6aed24fd557f3b9aa66a10bd7b193d", func := "undertow/undertowlaw03.SumParts", spec := "sumParts", unfollowed := true, recurses := true, apart := false }
def SumPartsSaid : Prop := sumPartsRow.holds Try.pinned (OpenSpec.ofChange sumPartsSpec)

/-- ITS FALSE NEIGHBOUR: 'it returns false'. Refute it at one input. -/
def sumPartsWrong : ChangeSpec := { name := "sumParts", fn := fun _ => fun
  | [d1, d2] => { results := [.lit (.bool false)], args := [d1, d2] }
  | _ => none }
def SumPartsWrongFalsely : Prop := sumPartsRow.holds Try.pinned (OpenSpec.ofChange sumPartsWrong)

/-- 'undertowlaw03.SumTells': WHATEVER THE INPUT: true; the input reads as it did. -/
def sumTellsSpec : ChangeSpec := { name := "sumTells", fn := fun _ => fun
  | [d1, d2, d3, d4] => { results := [.lit (.bool true)], args := [d1, d2, d3, d4] }
  | _ => none }
def sumTellsRow : OpenClaim := { program := "ytdpambnoaagmjaa", sum := "8c47c5f8a343c3edb4cbb1d5d7c32aa9ba6aed24fd557f3b9aa66a10bd7b193d", func := "undertow/undertowlaw03.SumTells", spec := "sumTells", unfollowed := true, recurses := true, apart := false }
def SumTellsSaid : Prop := sumTellsRow.holds Try.pinned (OpenSpec.ofChange sumTellsSpec)

/-- ITS FALSE NEIGHBOUR: 'it returns false'. Refute it at one input. -/
def sumTellsWrong : ChangeSpec := { name := "sumTells", fn := fun _ => fun
  | [d1, d2, d3, d4] => { results := [.lit (.bool false)], args := [d1, d2, d3, d4] }
  | _ => none }
def SumTellsWrongFalsely : Prop := sumTellsRow.holds Try.pinned (OpenSpec.ofChange sumTellsWrong)

/-- 'undertowlaw03.SumTurns': WHATEVER THE INPUT: true; the input reads as it did. -/
def sumTurnsSpec : ChangeSpec := { name := "sumTurns", fn := fun _ => fun
  | [d1, d2, d3, d4] => { results := [.lit (.bool true)], args := [d1, d2, d3, d4] }
  | _ => none }
def sumTurnsRow : OpenClaim := { program := "ytdpambnoaagmjaa", sum := "8c47c5f8a343c3edb4cbb1d5d7c32aa9ba6aed24fd557f3b9aa66a10bd7b193d", func := "undertow/undertowlaw03.SumTurns", spec := "sumTurns", unfollowed := true, recurses := true, apart := false }
def SumTurnsSaid : Prop := sumTurnsRow.holds Try.pinned (OpenSpec.ofChange sumTurnsSpec)

/-- ITS FALSE NEIGHBOUR: 'it returns false'. Refute it at one input. -/
def sumTurnsWrong : ChangeSpec := { name := "sumTurns", fn := fun _ => fun
  | [d1, d2, d3, d4] => { results := [.lit (.bool false)], args := [d1, d2, d3, d4] }
  | _ => none }
def SumTurnsWrongFalsely : Prop := sumTurnsRow.holds Try.pinned (OpenSpec.ofChange sumTurnsWrong)

/-- 'undertowlaw03.SumWithin': WHATEVER THE INPUT: true; the input reads as it did. -/
def sumWithinSpec : ChangeSpec := { name := "sumWithin", fn := fun _ => fun
  | [d] => { results := [.lit (.bool true)], args := [d] }
  | _ => none }
def sumWithinRow : OpenClaim := { program := "ytdpambnoaagmjaa", sum := "8c47c5f8a343c3edb4cbb1d5d7c32aa9ba6aed24fd557f3b9aa66a10bd7b193d", func := "undertow/undertowlaw03.SumWithin", spec := "sumWithin", unfollowed := true, recurses := true, apart := false }
def SumWithinSaid : Prop := sumWithinRow.holds Try.pinned (OpenSpec.ofChange sumWithinSpec)

/-- ITS FALSE NEIGHBOUR: 'it returns false'. Refute it at one input. -/
def sumWithinWrong : ChangeSpec := { name := "sumWithin", fn := fun _ => fun
  | [d] => { results := [.lit (.bool false)], args := [d] }
  | _ => none }
def SumWithinWrongFalsely : Prop := sumWithinRow.holds Try.pinned (OpenSpec.ofChange sumWithinWrong)

/-- 'undertowlaw04.OptionEncodes': WHATEVER THE INPUT: true; the input reads as it did. -/
def optionEncodesSpec : ChangeSpec := { name := "optionEncodes", fn := fun _ => fun
  | [d1, d2] => { results := [.lit (.bool true)], args := [d1, d2] }
  | _ => none }
def optionEncodesRow : OpenClaim := { program := "ytdpambnoaagmjaa", sum := "8c47c5f8a343c3edb4cbb1d5d7c32aa9ba6aed24fd557f3b9aa66a10bd7b193d", func := "undertow/undertowlaw04.OptionEncodes", spec := "optionEncodes", unfollowed := true, recurses := true, apart := false }
def OptionEncodesSaid : Prop := optionEncodesRow.holds Try.pinned (OpenSpec.ofChange optionEncodesSpec)

/-- ITS FALSE NEIGHBOUR: 'it returns false'. Refute it at one input. -/
def optionEncodesWrong : ChangeSpec := { name := "optionEncodes", fn := fun _ => fun
  | [d1, d2] => { results := [.lit (.bool false)], args := [d1, d2] }
  | _ => none }
def OptionEncodesWrongFalsely : Prop := optionEncodesRow.holds Try.pinned (OpenSpec.ofChange optionEncodesWrong)

/-- 'undertowlaw04.OptionBack': WHATEVER THE INPUT: true; the input reads as it did. -/
def optionBackSpec : ChangeSpec := { name := "optionBack", fn := fun _ => fun
  | [d] => { results := [.lit (.bool true)], args := [d] }
  | _ => none }
def optionBackRow : OpenClaim := { program := "ytdpambnoaagmjaa", sum := "8c47c5f8a343c3edb4cbb1d5d7c32aa9ba6aed24fd557f3b9aa66a10bd7b193d", func := "undertow/undertowlaw04.OptionBack", spec := "optionBack", unfollowed := true, recurses := true, apart := false }
def OptionBackSaid : Prop := optionBackRow.holds Try.pinned (OpenSpec.ofChange optionBackSpec)

/-- ITS FALSE NEIGHBOUR: 'it returns false'. Refute it at one input. -/
def optionBackWrong : ChangeSpec := { name := "optionBack", fn := fun _ => fun
  | [d] => { results := [.lit (.bool false)], args := [d] }
  | _ => none }
def OptionBackWrongFalsely : Prop := optionBackRow.holds Try.pinned (OpenSpec.ofChange optionBackWrong)

/-- 'undertowlaw04.OptionSkips': WHATEVER THE INPUT: true; the input reads as it did. -/
def optionSkipsSpec : ChangeSpec := { name := "optionSkips", fn := fun _ => fun
  | [d1, d2, d3, d4] => { results := [.lit (.bool true)], args := [d1, d2, d3, d4] }
  | _ => none }
def optionSkipsRow : OpenClaim := { program := "ytdpambnoaagmjaa", sum := "8c47c5f8a343c3edb4cbb1d5d7c32aa9ba6aed24fd557f3b9aa66a10bd7b193d", func := "undertow/undertowlaw04.OptionSkips", spec := "optionSkips", unfollowed := true, recurses := true, apart := false }
def OptionSkipsSaid : Prop := optionSkipsRow.holds Try.pinned (OpenSpec.ofChange optionSkipsSpec)

/-- ITS FALSE NEIGHBOUR: 'it returns false'. Refute it at one input. -/
def optionSkipsWrong : ChangeSpec := { name := "optionSkips", fn := fun _ => fun
  | [d1, d2, d3, d4] => { results := [.lit (.bool false)], args := [d1, d2, d3, d4] }
  | _ => none }
def OptionSkipsWrongFalsely : Prop := optionSkipsRow.holds Try.pinned (OpenSpec.ofChange optionSkipsWrong)

/-- 'undertowlaw04.OptionMay': WHATEVER THE INPUT: true; the input reads as it did. -/
def optionMaySpec : ChangeSpec := { name := "optionMay", fn := fun _ => fun
  | [d] => { results := [.lit (.bool true)], args := [d] }
  | _ => none }
def optionMayRow : OpenClaim := { program := "ytdpambnoaagmjaa", sum := "8c47c5f8a343c3edb4cbb1d5d7c32aa9ba6aed24fd557f3b9aa66a10bd7b193d", func := "undertow/undertowlaw04.OptionMay", spec := "optionMay", unfollowed := true, recurses := true, apart := false }
def OptionMaySaid : Prop := optionMayRow.holds Try.pinned (OpenSpec.ofChange optionMaySpec)

/-- ITS FALSE NEIGHBOUR: 'it returns false'. Refute it at one input. -/
def optionMayWrong : ChangeSpec := { name := "optionMay", fn := fun _ => fun
  | [d] => { results := [.lit (.bool false)], args := [d] }
  | _ => none }
def OptionMayWrongFalsely : Prop := optionMayRow.holds Try.pinned (OpenSpec.ofChange optionMayWrong)

/- THE SECOND FORM. 'bulk': how many values and letters a reading holds, each counted each time it is reached (what is shared counts as often as it is met; a slice's spare places count too). A statement '..UptoSaid' is the law's where the arguments, and the package variables that the reading takes, are together of bulk at most 1048576: NARROWER than '..Said'. Prove '..Said' where nothing that the law and all that it calls make is longer than what came in: it says more and counts as full. Else prove '..UptoSaid'. A law counts once. -/
mutual
def uptoBulk {H : Type} : DataW H → Nat
  | .lit (.string bytes) => bytes.length + 1
  | .lit _ => 1
  | .nil => 1
  | .ptr d => uptoBulk d + 1
  | .slice elems spare => uptoBulkAll elems + uptoBulkAll spare + 1
  | .agg parts => uptoBulkAll parts + 1
  | .iface _ d => uptoBulk d + 1
  | .map entries => uptoBulkEntries entries + 1
  | .held _ => 1
def uptoBulkAll {H : Type} : List (DataW H) → Nat
  | [] => 0
  | d :: r => uptoBulk d + uptoBulkAll r
def uptoBulkEntries {H : Type} : List (Lit × DataW H) → Nat
  | [] => 0
  | x :: r => uptoBulkEntry x + uptoBulkEntries r
def uptoBulkEntry {H : Type} : Lit × DataW H → Nat
  | (.string bytes, d) => bytes.length + uptoBulk d + 1
  | (_, d) => uptoBulk d + 1
 end
def uptoSmall : (H : Type) → List (DataW H) → Bool := fun _ ds => decide (uptoBulkAll ds ≤ 1048576)
def OpenSpec.upto (s : _root_.Go.ChangeSpec) : _root_.Go.OpenSpec := { _root_.Go.OpenSpec.ofChange s with cond := some uptoSmall }

/-- 'undertowlaw03.SumOf', WHERE WHAT IT READS IS OF BULK AT MOST 1048576: true; the input reads as it did. -/
def sumOfUptoRow : OpenClaim := { program := "ytdpambnoaagmjaa", sum := "8c47c5f8a343c3edb4cbb1d5d7c32aa9ba6aed24fd557f3b9aa66a10bd7b193d", func := "undertow/undertowlaw03.SumOf", spec := "sumOf", unfollowed := true, recurses := true, apart := false, narrowed := true }
def SumOfUptoSaid : Prop := sumOfUptoRow.holds Try.pinned (OpenSpec.upto sumOfSpec)

/-- 'undertowlaw03.SumParts', WHERE WHAT IT READS IS OF BULK AT MOST 1048576: true; the input reads as it did. -/
def sumPartsUptoRow : OpenClaim := { program := "ytdpambnoaagmjaa", sum := "8c47c5f8a343c3edb4cbb1d5d7c32aa9ba6aed24fd557f3b9aa66a10bd7b193d", func := "undertow/undertowlaw03.SumParts", spec := "sumParts", unfollowed := true, recurses := true, apart := false, narrowed := true }
def SumPartsUptoSaid : Prop := sumPartsUptoRow.holds Try.pinned (OpenSpec.upto sumPartsSpec)

/-- 'undertowlaw03.SumTells', WHERE WHAT IT READS IS OF BULK AT MOST 1048576: true; the input reads as it did. -/
def sumTellsUptoRow : OpenClaim := { program := "ytdpambnoaagmjaa", sum := "8c47c5f8a343c3edb4cbb1d5d7c32aa9ba6aed24fd557f3b9aa66a10bd7b193d", func := "undertow/undertowlaw03.SumTells", spec := "sumTells", unfollowed := true, recurses := true, apart := false, narrowed := true }
def SumTellsUptoSaid : Prop := sumTellsUptoRow.holds Try.pinned (OpenSpec.upto sumTellsSpec)

/-- 'undertowlaw03.SumTurns', WHERE WHAT IT READS IS OF BULK AT MOST 1048576: true; the input reads as it did. -/
def sumTurnsUptoRow : OpenClaim := { program := "ytdpambnoaagmjaa", sum := "8c47c5f8a343c3edb4cbb1d5d7c32aa9ba6aed24fd557f3b9aa66a10bd7b193d", func := "undertow/undertowlaw03.SumTurns", spec := "sumTurns", unfollowed := true, recurses := true, apart := false, narrowed := true }
def SumTurnsUptoSaid : Prop := sumTurnsUptoRow.holds Try.pinned (OpenSpec.upto sumTurnsSpec)

/-- 'undertowlaw03.SumWithin', WHERE WHAT IT READS IS OF BULK AT MOST 1048576: true; the input reads as it did. -/
def sumWithinUptoRow : OpenClaim := { program := "ytdpambnoaagmjaa", sum := "8c47c5f8a343c3edb4cbb1d5d7c32aa9ba6aed24fd557f3b9aa66a10bd7b193d", func := "undertow/undertowlaw03.SumWithin", spec := "sumWithin", unfollowed := true, recurses := true, apart := false, narrowed := true }
def SumWithinUptoSaid : Prop := sumWithinUptoRow.holds Try.pinned (OpenSpec.upto sumWithinSpec)

/-- 'undertowlaw04.OptionEncodes', WHERE WHAT IT READS IS OF BULK AT MOST 1048576: true; the input reads as it did. -/
def optionEncodesUptoRow : OpenClaim := { program := "ytdpambnoaagmjaa", sum := "8c47c5f8a343c3edb4cbb1d5d7c32aa9ba6aed24fd557f3b9aa66a10bd7b193d", func := "undertow/undertowlaw04.OptionEncodes", spec := "optionEncodes", unfollowed := true, recurses := true, apart := false, narrowed := true }
def OptionEncodesUptoSaid : Prop := optionEncodesUptoRow.holds Try.pinned (OpenSpec.upto optionEncodesSpec)

/-- 'undertowlaw04.OptionBack', WHERE WHAT IT READS IS OF BULK AT MOST 1048576: true; the input reads as it did. -/
def optionBackUptoRow : OpenClaim := { program := "ytdpambnoaagmjaa", sum := "8c47c5f8a343c3edb4cbb1d5d7c32aa9ba6aed24fd557f3b9aa66a10bd7b193d", func := "undertow/undertowlaw04.OptionBack", spec := "optionBack", unfollowed := true, recurses := true, apart := false, narrowed := true }
def OptionBackUptoSaid : Prop := optionBackUptoRow.holds Try.pinned (OpenSpec.upto optionBackSpec)

/-- 'undertowlaw04.OptionSkips', WHERE WHAT IT READS IS OF BULK AT MOST 1048576: true; the input reads as it did. -/
def optionSkipsUptoRow : OpenClaim := { program := "ytdpambnoaagmjaa", sum := "8c47c5f8a343c3edb4cbb1d5d7c32aa9ba6aed24fd557f3b9aa66a10bd7b193d", func := "undertow/undertowlaw04.OptionSkips", spec := "optionSkips", unfollowed := true, recurses := true, apart := false, narrowed := true }
def OptionSkipsUptoSaid : Prop := optionSkipsUptoRow.holds Try.pinned (OpenSpec.upto optionSkipsSpec)

/-- 'undertowlaw04.OptionMay', WHERE WHAT IT READS IS OF BULK AT MOST 1048576: true; the input reads as it did. -/
def optionMayUptoRow : OpenClaim := { program := "ytdpambnoaagmjaa", sum := "8c47c5f8a343c3edb4cbb1d5d7c32aa9ba6aed24fd557f3b9aa66a10bd7b193d", func := "undertow/undertowlaw04.OptionMay", spec := "optionMay", unfollowed := true, recurses := true, apart := false, narrowed := true }
def OptionMayUptoSaid : Prop := optionMayUptoRow.holds Try.pinned (OpenSpec.upto optionMaySpec)

end Rows
end Go.Proofs.Ytdpambnoaagmjaa
