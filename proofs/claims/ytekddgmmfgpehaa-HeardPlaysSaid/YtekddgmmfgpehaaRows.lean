/-
  No cell of these rows narrows 'for every input' (looked for: loops, veiled, ifaces, maps, wideKeys, modest, calm, conditions, laid).
  DERIVED. THE GIVEN ROWS OF THIS SEAT. 4 by the template 'for every input the law returns true; each argument reads behind the call as it read before'; 0 by the template 'total and deterministic' (their statements: YtekddgmmfgpehaaTotals.lean).
  GIVEN WITH THE SEED: the statements are not yours to turn. If you find one false, say at which input.
  Laid BY PROGRAM, IN A SANDBOX (cutbox-rows.mjs): the forced cells as the released guide's own fill.sh prints them over the translation f6856bcbcad0c4ea… (all of the seat's roots in one cut). By AI agents, Wed Nov 11 2026. No macro, syntax, notation, axiom, sorry.
-/
import Derived.Test.YtekddgmmfgpehaaChecked
import GoSem.Claim
import GoSem.ClaimJoined
import GoSem.ClaimMapViews
import Derived.JoinedTies
import Derived.KernelRfl
namespace Go.Proofs.Ytekddgmmfgpehaa
/- THE CELL 'sum', in the pinned program and in every row, IS THE sha256 OF THE DUMP (.gsa) THAT YtekddgmmfgpehaaProg.lean LOADS. Nothing in Lean hashes anything: it is a label: what it is worth is what the hold of that sum in a sandbox is worth. -/
noncomputable def Try.pinned : Pinned := { name := "ytekddgmmfgpehaa", sum := "f6856bcbcad0c4ea1537c93a48371ee97eb85b7d9b0895cfad6a8b0dabd97b5c", checked := Try.checked }
namespace Rows
def none {H : Type} : Left H := { results := [], args := [] }

/-- 'undertowlaw23.HeardPlays': WHATEVER THE INPUT: true; the input reads as it did. -/
def heardPlaysSpec : ChangeSpec := { name := "heardPlays", fn := fun _ => fun
  | [d1, d2, d3, d4] => { results := [.lit (.bool true)], args := [d1, d2, d3, d4] }
  | _ => none }
def heardPlaysRow : OpenClaim := { program := "ytekddgmmfgpehaa", sum := "f6856bcbcad0c4ea1537c93a48371ee97eb85b7d9b0895cfad6a8b0dabd97b5c", func := "undertow/undertowlaw23.HeardPlays", spec := "heardPlays", unfollowed := true, recurses := true, apart := false }
def HeardPlaysSaid : Prop := heardPlaysRow.holds Try.pinned (OpenSpec.ofChange heardPlaysSpec)

/-- ITS FALSE NEIGHBOUR: 'it returns false'. Refute it at one input. -/
def heardPlaysWrong : ChangeSpec := { name := "heardPlays", fn := fun _ => fun
  | [d1, d2, d3, d4] => { results := [.lit (.bool false)], args := [d1, d2, d3, d4] }
  | _ => none }
def HeardPlaysWrongFalsely : Prop := heardPlaysRow.holds Try.pinned (OpenSpec.ofChange heardPlaysWrong)

/-- 'undertowlaw23.HeardOrder': WHATEVER THE INPUT: true; the input reads as it did. -/
def heardOrderSpec : ChangeSpec := { name := "heardOrder", fn := fun _ => fun
  | [d1, d2, d3] => { results := [.lit (.bool true)], args := [d1, d2, d3] }
  | _ => none }
def heardOrderRow : OpenClaim := { program := "ytekddgmmfgpehaa", sum := "f6856bcbcad0c4ea1537c93a48371ee97eb85b7d9b0895cfad6a8b0dabd97b5c", func := "undertow/undertowlaw23.HeardOrder", spec := "heardOrder", unfollowed := true, recurses := true, apart := false }
def HeardOrderSaid : Prop := heardOrderRow.holds Try.pinned (OpenSpec.ofChange heardOrderSpec)

/-- ITS FALSE NEIGHBOUR: 'it returns false'. Refute it at one input. -/
def heardOrderWrong : ChangeSpec := { name := "heardOrder", fn := fun _ => fun
  | [d1, d2, d3] => { results := [.lit (.bool false)], args := [d1, d2, d3] }
  | _ => none }
def HeardOrderWrongFalsely : Prop := heardOrderRow.holds Try.pinned (OpenSpec.ofChange heardOrderWrong)

/-- 'undertowlaw23.HeardKeeps': WHATEVER THE INPUT: true; the input reads as it did. -/
def heardKeepsSpec : ChangeSpec := { name := "heardKeeps", fn := fun _ => fun
  | [d1, d2, d3, d4] => { results := [.lit (.bool true)], args := [d1, d2, d3, d4] }
  | _ => none }
def heardKeepsRow : OpenClaim := { program := "ytekddgmmfgpehaa", sum := "f6856bcbcad0c4ea1537c93a48371ee97eb85b7d9b0895cfad6a8b0dabd97b5c", func := "undertow/undertowlaw23.HeardKeeps", spec := "heardKeeps", unfollowed := true, recurses := true, apart := false }
def HeardKeepsSaid : Prop := heardKeepsRow.holds Try.pinned (OpenSpec.ofChange heardKeepsSpec)

/-- ITS FALSE NEIGHBOUR: 'it returns false'. Refute it at one input. -/
def heardKeepsWrong : ChangeSpec := { name := "heardKeeps", fn := fun _ => fun
  | [d1, d2, d3, d4] => { results := [.lit (.bool false)], args := [d1, d2, d3, d4] }
  | _ => none }
def HeardKeepsWrongFalsely : Prop := heardKeepsRow.holds Try.pinned (OpenSpec.ofChange heardKeepsWrong)

/-- 'undertowlaw23.HeardNone': WHATEVER THE INPUT: true; the input reads as it did. -/
def heardNoneSpec : ChangeSpec := { name := "heardNone", fn := fun _ => fun
  | [d] => { results := [.lit (.bool true)], args := [d] }
  | _ => none }
def heardNoneRow : OpenClaim := { program := "ytekddgmmfgpehaa", sum := "f6856bcbcad0c4ea1537c93a48371ee97eb85b7d9b0895cfad6a8b0dabd97b5c", func := "undertow/undertowlaw23.HeardNone", spec := "heardNone", unfollowed := true, recurses := true, apart := false }
def HeardNoneSaid : Prop := heardNoneRow.holds Try.pinned (OpenSpec.ofChange heardNoneSpec)

/-- ITS FALSE NEIGHBOUR: 'it returns false'. Refute it at one input. -/
def heardNoneWrong : ChangeSpec := { name := "heardNone", fn := fun _ => fun
  | [d] => { results := [.lit (.bool false)], args := [d] }
  | _ => none }
def HeardNoneWrongFalsely : Prop := heardNoneRow.holds Try.pinned (OpenSpec.ofChange heardNoneWrong)

/- THE SECOND FORM. 'bulk': how many values and letters a reading holds, each counted each time it is reached (what is shared counts as often as it is met; a slice's spare places count too). A statement '..UptoSaid' is the law's where the arguments, and the package variables that the reading takes, are together of bulk at most 1048576: NARROWER than '..Said'. Prove '..Said' where nothing that the law and all that it calls make is longer than what came in: it says more and counts as full. Else prove '..UptoSaid'. A law counts once. -/
mutual
def uptoBulk {H : Type} : DataW H → Nat
  | .lit (.string bytes) => bytes.length + 1
  | .lit _ => 1
  | .nil => 1
  | .ptr d => uptoBulk d + 1
  | .slice elems spare => uptoBulkAll elems + uptoBulkAll spare + 1
  | .agg parts => uptoBulkAll parts + 1
  | .iface _ d => uptoBulk d + 1
  | .map entries => uptoBulkEntries entries + 1
  | .held _ => 1
def uptoBulkAll {H : Type} : List (DataW H) → Nat
  | [] => 0
  | d :: r => uptoBulk d + uptoBulkAll r
def uptoBulkEntries {H : Type} : List (Lit × DataW H) → Nat
  | [] => 0
  | x :: r => uptoBulkEntry x + uptoBulkEntries r
def uptoBulkEntry {H : Type} : Lit × DataW H → Nat
  | (.string bytes, d) => bytes.length + uptoBulk d + 1
  | (_, d) => uptoBulk d + 1
 end
def uptoSmall : (H : Type) → List (DataW H) → Bool := fun _ ds => decide (uptoBulkAll ds ≤ 1048576)
def OpenSpec.upto (s : _root_.Go.ChangeSpec) : _root_.Go.OpenSpec := { _root_.Go.OpenSpec.ofChange s with cond := some uptoSmall }

/-- 'undertowlaw23.HeardPlays', WHERE WHAT IT READS IS OF BULK AT MOST 1048576: true; the input reads as it did. -/
def heardPlaysUptoRow : OpenClaim := { program := "ytekddgmmfgpehaa", sum := "f6856bcbcad0c4ea1537c93a48371ee97eb85b7d9b0895cfad6a8b0dabd97b5c", func := "undertow/undertowlaw23.HeardPlays", spec := "heardPlays", unfollowed := true, recurses := true, apart := false, narrowed := true }
def HeardPlaysUptoSaid : Prop := heardPlaysUptoRow.holds Try.pinned (OpenSpec.upto heardPlaysSpec)

/-- 'undertowlaw23.HeardOrder', WHERE WHAT IT READS IS OF BULK AT MOST 1048576: true; the input reads as it did. -/
def heardOrderUptoRow : OpenClaim := { program := "ytekddgmmfgpehaa", sum := "f6856bcbcad0c4ea1537c93a48371ee97eb85b7d9b0895cfad6a8b0dabd97b5c", func := "undertow/undertowlaw23.HeardOrder", spec := "heardOrder", unfollowed := true, recurses := true, apart := false, narrowed := true }
def HeardOrderUptoSaid : Prop := heardOrderUptoRow.holds Try.pinned (OpenSpec.upto heardOrderSpec)

/-- 'undertowlaw23.HeardKeeps', WHERE WHAT IT READS IS OF BULK AT MOST 1048576: true; the input reads as it did. -/
def heardKeepsUptoRow : OpenClaim := { program := "ytekddgmmfgpehaa", sum := "f6856bcbcad0c4ea1537c93a48371ee97eb85b7d9b0895cfad6a8b0dabd97b5c", func := "undertow/undertowlaw23.HeardKeeps", spec := "heardKeeps", unfollowed := true, recurses := true, apart := false, narrowed := true }
def HeardKeepsUptoSaid : Prop := heardKeepsUptoRow.holds Try.pinned (OpenSpec.upto heardKeepsSpec)

/-- 'undertowlaw23.HeardNone', WHERE WHAT IT READS IS OF BULK AT MOST 1048576: true; the input reads as it did. -/
def heardNoneUptoRow : OpenClaim := { program := "ytekddgmmfgpehaa", sum := "f6856bcbcad0c4ea1537c93a48371ee97eb85b7d9b0895cfad6a8b0dabd97b5c", func := "undertow/undertowlaw23.HeardNone", spec := "heardNone", unfollowed := true, recurses := true, apart := false, narrowed := true }
def HeardNoneUptoSaid : Prop := heardNoneUptoRow.holds Try.pinned (OpenSpec.upto heardNoneSpec)

end Rows
end Go.Proofs.Ytekddgmmfgpehaa
