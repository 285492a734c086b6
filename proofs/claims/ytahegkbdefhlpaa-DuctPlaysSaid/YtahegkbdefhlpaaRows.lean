/-
  No cell of these rows narrows 'for every input' (looked for: loops, veiled, ifaces, maps, wideKeys, modest, calm, conditions, laid).
  DERIVED. THE GIVEN ROWS OF THIS SEAT. 4 by the template 'for every input the law returns true; each argument reads behind the call as it read before'; 0 by the template 'total and deterministic' (their statements: YtahegkbdefhlpaaTotals.lean).
  GIVEN WITH THE SEED: the statements are not yours to turn. If you find one false, say at which input.
  Laid BY PROGRAM, IN A SANDBOX (cutbox-rows.mjs): the forced cells as the released guide's own fill.sh prints them over the translation 5d3d17715ad18f56… (all of the seat's roots in one cut). By AI agents, Wed Nov 11 2026. No macro, syntax, notation, axiom, sorry.
-/
import Derived.Test.YtahegkbdefhlpaaChecked
import GoSem.Claim
import GoSem.ClaimJoined
import GoSem.ClaimMapViews
import Derived.JoinedTies
import Derived.KernelRfl
namespace Go.Proofs.Ytahegkbdefhlpaa
/- THE CELL 'sum', in the pinned program and in every row, IS THE sha256 OF THE DUMP (.gsa) THAT YtahegkbdefhlpaaProg.lean LOADS. Nothing in Lean hashes anything: it is a label: what it is worth is what the hold of that sum in a sandbox is worth. -/
noncomputable def Try.pinned : Pinned := { name := "ytahegkbdefhlpaa", sum := "5d3d17715ad18f563db2a90990190e1e2041d92bb1512a643b03c44e81196c85", checked := Try.checked }
namespace Rows
def none {H : Type} : Left H := { results := [], args := [] }

/-- 'undertowlaw25.DuctPlays': WHATEVER THE INPUT: true; the input reads as it did. -/
def ductPlaysSpec : ChangeSpec := { name := "ductPlays", fn := fun _ => fun
  | [d1, d2] => { results := [.lit (.bool true)], args := [d1, d2] }
  | _ => none }
def ductPlaysRow : OpenClaim := { program := "ytahegkbdefhlpaa", sum := "5d3d17715ad18f563db2a90990190e1e2041d92bb1512a643b03c44e81196c85", func := "undertow/undertowlaw25.DuctPlays", spec := "ductPlays", inPlace := ["maps.clone"], unfollowed := true, recurses := true, apart := false }
def DuctPlaysSaid : Prop := ductPlaysRow.holds Try.pinned (OpenSpec.ofChange ductPlaysSpec)

/-- ITS FALSE NEIGHBOUR: 'it returns false'. Refute it at one input. -/
def ductPlaysWrong : ChangeSpec := { name := "ductPlays", fn := fun _ => fun
  | [d1, d2] => { results := [.lit (.bool false)], args := [d1, d2] }
  | _ => none }
def DuctPlaysWrongFalsely : Prop := ductPlaysRow.holds Try.pinned (OpenSpec.ofChange ductPlaysWrong)

/-- 'undertowlaw25.DuctOnce': WHATEVER THE INPUT: true; the input reads as it did. -/
def ductOnceSpec : ChangeSpec := { name := "ductOnce", fn := fun _ => fun
  | [d1, d2] => { results := [.lit (.bool true)], args := [d1, d2] }
  | _ => none }
def ductOnceRow : OpenClaim := { program := "ytahegkbdefhlpaa", sum := "5d3d17715ad18f563db2a90990190e1e2041d92bb1512a643b03c44e81196c85", func := "undertow/undertowlaw25.DuctOnce", spec := "ductOnce", apart := false }
def DuctOnceSaid : Prop := ductOnceRow.holds Try.pinned (OpenSpec.ofChange ductOnceSpec)

/-- ITS FALSE NEIGHBOUR: 'it returns false'. Refute it at one input. -/
def ductOnceWrong : ChangeSpec := { name := "ductOnce", fn := fun _ => fun
  | [d1, d2] => { results := [.lit (.bool false)], args := [d1, d2] }
  | _ => none }
def DuctOnceWrongFalsely : Prop := ductOnceRow.holds Try.pinned (OpenSpec.ofChange ductOnceWrong)

/-- 'undertowlaw25.DuctFull': WHATEVER THE INPUT: true; the input reads as it did. -/
def ductFullSpec : ChangeSpec := { name := "ductFull", fn := fun _ => fun
  | [d] => { results := [.lit (.bool true)], args := [d] }
  | _ => none }
def ductFullRow : OpenClaim := { program := "ytahegkbdefhlpaa", sum := "5d3d17715ad18f563db2a90990190e1e2041d92bb1512a643b03c44e81196c85", func := "undertow/undertowlaw25.DuctFull", spec := "ductFull", apart := false }
def DuctFullSaid : Prop := ductFullRow.holds Try.pinned (OpenSpec.ofChange ductFullSpec)

/-- ITS FALSE NEIGHBOUR: 'it returns false'. Refute it at one input. -/
def ductFullWrong : ChangeSpec := { name := "ductFull", fn := fun _ => fun
  | [d] => { results := [.lit (.bool false)], args := [d] }
  | _ => none }
def DuctFullWrongFalsely : Prop := ductFullRow.holds Try.pinned (OpenSpec.ofChange ductFullWrong)

/-- 'undertowlaw25.DuctNone': WHATEVER THE INPUT: true; the input reads as it did. -/
def ductNoneSpec : ChangeSpec := { name := "ductNone", fn := fun _ => fun
  | [d1, d2] => { results := [.lit (.bool true)], args := [d1, d2] }
  | _ => none }
def ductNoneRow : OpenClaim := { program := "ytahegkbdefhlpaa", sum := "5d3d17715ad18f563db2a90990190e1e2041d92bb1512a643b03c44e81196c85", func := "undertow/undertowlaw25.DuctNone", spec := "ductNone", inPlace := ["maps.clone"], unfollowed := true, recurses := true, apart := false }
def DuctNoneSaid : Prop := ductNoneRow.holds Try.pinned (OpenSpec.ofChange ductNoneSpec)

/-- ITS FALSE NEIGHBOUR: 'it returns false'. Refute it at one input. -/
def ductNoneWrong : ChangeSpec := { name := "ductNone", fn := fun _ => fun
  | [d1, d2] => { results := [.lit (.bool false)], args := [d1, d2] }
  | _ => none }
def DuctNoneWrongFalsely : Prop := ductNoneRow.holds Try.pinned (OpenSpec.ofChange ductNoneWrong)

/- THE SECOND FORM. 'bulk': how many values and letters a reading holds, each counted each time it is reached (what is shared counts as often as it is met; a slice's spare places count too). A statement '..UptoSaid' is the law's where the arguments, and the package variables that the reading takes, are together of bulk at most 1048576: NARROWER than '..Said'. Prove '..Said' where nothing that the law and all that it calls make is longer than what came in: it says more and counts as full. Else prove '..UptoSaid'. A law counts once. -/
mutual
def uptoBulk {H : Type} : DataW H → Nat
  | .lit (.string bytes) => bytes.length + 1
  | .lit _ => 1
  | .nil => 1
  | .ptr d => uptoBulk d + 1
  | .slice elems spare => uptoBulkAll elems + uptoBulkAll spare + 1
  | .agg parts => uptoBulkAll parts + 1
  | .iface _ d => uptoBulk d + 1
  | .map entries => uptoBulkEntries entries + 1
  | .held _ => 1
def uptoBulkAll {H : Type} : List (DataW H) → Nat
  | [] => 0
  | d :: r => uptoBulk d + uptoBulkAll r
def uptoBulkEntries {H : Type} : List (Lit × DataW H) → Nat
  | [] => 0
  | x :: r => uptoBulkEntry x + uptoBulkEntries r
def uptoBulkEntry {H : Type} : Lit × DataW H → Nat
  | (.string bytes, d) => bytes.length + uptoBulk d + 1
  | (_, d) => uptoBulk d + 1
 end
def uptoSmall : (H : Type) → List (DataW H) → Bool := fun _ ds => decide (uptoBulkAll ds ≤ 1048576)
def OpenSpec.upto (s : _root_.Go.ChangeSpec) : _root_.Go.OpenSpec := { _root_.Go.OpenSpec.ofChange s with cond := some uptoSmall }

/-- 'undertowlaw25.DuctPlays', WHERE WHAT IT READS IS OF BULK AT MOST 1048576: true; the input reads as it did. -/
def ductPlaysUptoRow : OpenClaim := { program := "ytahegkbdefhlpaa", sum := "5d3d17715ad18f563db2a90990190e1e2041d92bb1512a643b03c44e81196c85", func := "undertow/undertowlaw25.DuctPlays", spec := "ductPlays", inPlace := ["maps.clone"], unfollowed := true, recurses := true, apart := false, narrowed := true }
def DuctPlaysUptoSaid : Prop := ductPlaysUptoRow.holds Try.pinned (OpenSpec.upto ductPlaysSpec)

/-- 'undertowlaw25.DuctOnce', WHERE WHAT IT READS IS OF BULK AT MOST 1048576: true; the input reads as it did. -/
def ductOnceUptoRow : OpenClaim := { program := "ytahegkbdefhlpaa", sum := "5d3d17715ad18f563db2a90990190e1e2041d92bb1512a643b03c44e81196c85", func := "undertow/undertowlaw25.DuctOnce", spec := "ductOnce", apart := false, narrowed := true }
def DuctOnceUptoSaid : Prop := ductOnceUptoRow.holds Try.pinned (OpenSpec.upto ductOnceSpec)

/-- 'undertowlaw25.DuctFull', WHERE WHAT IT READS IS OF BULK AT MOST 1048576: true; the input reads as it did. -/
def ductFullUptoRow : OpenClaim := { program := "ytahegkbdefhlpaa", sum := "5d3d17715ad18f563db2a90990190e1e2041d92bb1512a643b03c44e81196c85", func := "undertow/undertowlaw25.DuctFull", spec := "ductFull", apart := false, narrowed := true }
def DuctFullUptoSaid : Prop := ductFullUptoRow.holds Try.pinned (OpenSpec.upto ductFullSpec)

/-- 'undertowlaw25.DuctNone', WHERE WHAT IT READS IS OF BULK AT MOST 1048576: true; the input reads as it did. -/
def ductNoneUptoRow : OpenClaim := { program := "ytahegkbdefhlpaa", sum := "5d3d17715ad18f563db2a90990190e1e2041d92bb1512a643b03c44e81196c85", func := "undertow/undertowlaw25.DuctNone", spec := "ductNone", inPlace := ["maps.clone"], unfollowed := true, recurses := true, apart := false, narrowed := true }
def DuctNoneUptoSaid : Prop := ductNoneUptoRow.holds Try.pinned (OpenSpec.upto ductNoneSpec)

end Rows
end Go.Proofs.Ytahegkbdefhlpaa
