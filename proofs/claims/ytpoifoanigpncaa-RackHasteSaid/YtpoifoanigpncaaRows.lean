/-
  No cell of these rows narrows 'for every input' (looked for: loops, veiled, ifaces, maps, wideKeys, modest, calm, conditions, laid).
  DERIVED. THE GIVEN ROWS OF THIS SEAT. 5 by the template 'for every input the law returns true; each argument reads behind the call as it read before'; 0 by the template 'total and deterministic' (their statements: YtpoifoanigpncaaTotals.lean).
  GIVEN WITH THE SEED: the statements are not yours to turn. If you find one false, say at which input.
  Laid BY PROGRAM, IN A SANDBOX (cutbox-rows.mjs): the forced cells as the released guide's own fill.sh prints them over the translation 76cbfb2a64432776… (all of the seat's roots in one cut). By AI agents, Wed Nov 11 2026. No macro, syntax, notation, axiom, sorry.
-/
import Derived.Test.YtpoifoanigpncaaChecked
import GoSem.Claim
import GoSem.ClaimJoined
import GoSem.ClaimMapViews
import Derived.JoinedTies
import Derived.KernelRfl
namespace Go.Proofs.Ytpoifoanigpncaa
/- THE CELL 'sum', in the pinned program and in every row, IS THE sha256 OF THE DUMP (.gsa) THAT YtpoifoanigpncaaProg.lean LOADS. Nothing in Lean hashes anything: it is a label: what it is worth is what the hold of that sum in a sandbox is worth. -/
noncomputable def Try.pinned : Pinned := { name := "ytpoifoanigpncaa", sum := "76cbfb2a6443277624a7b3fcec1026c831e9c440bebce0994287bbd1314d8f32", checked := Try.checked }
namespace Rows
def none {H : Type} : Left H := { results := [], args := [] }

/-- 'undertowlaw15.RackPlays': WHATEVER THE INPUT: true; the input reads as it did. -/
def rackPlaysSpec : ChangeSpec := { name := "rackPlays", fn := fun _ => fun
  | [d1, d2, d3, d4] => { results := [.lit (.bool true)], args := [d1, d2, d3, d4] }
  | _ => none }
def rackPlaysRow : OpenClaim := { program := "ytpoifoanigpncaa", sum := "76cbfb2a6443277624a7b3fcec1026c831e9c440bebce0994287bbd1314d8f32", func := "undertow/undertowlaw15.RackPlays", spec := "rackPlays", unfollowed := true, recurses := true, apart := false }
def RackPlaysSaid : Prop := rackPlaysRow.holds Try.pinned (OpenSpec.ofChange rackPlaysSpec)

/-- ITS FALSE NEIGHBOUR: 'it returns false'. Refute it at one input. -/
def rackPlaysWrong : ChangeSpec := { name := "rackPlays", fn := fun _ => fun
  | [d1, d2, d3, d4] => { results := [.lit (.bool false)], args := [d1, d2, d3, d4] }
  | _ => none }
def RackPlaysWrongFalsely : Prop := rackPlaysRow.holds Try.pinned (OpenSpec.ofChange rackPlaysWrong)

/-- 'undertowlaw15.RackLate': WHATEVER THE INPUT: true; the input reads as it did. -/
def rackLateSpec : ChangeSpec := { name := "rackLate", fn := fun _ => fun
  | [d1, d2, d3, d4] => { results := [.lit (.bool true)], args := [d1, d2, d3, d4] }
  | _ => none }
def rackLateRow : OpenClaim := { program := "ytpoifoanigpncaa", sum := "76cbfb2a6443277624a7b3fcec1026c831e9c440bebce0994287bbd1314d8f32", func := "undertow/undertowlaw15.RackLate", spec := "rackLate", unfollowed := true, recurses := true, apart := false }
def RackLateSaid : Prop := rackLateRow.holds Try.pinned (OpenSpec.ofChange rackLateSpec)

/-- ITS FALSE NEIGHBOUR: 'it returns false'. Refute it at one input. -/
def rackLateWrong : ChangeSpec := { name := "rackLate", fn := fun _ => fun
  | [d1, d2, d3, d4] => { results := [.lit (.bool false)], args := [d1, d2, d3, d4] }
  | _ => none }
def RackLateWrongFalsely : Prop := rackLateRow.holds Try.pinned (OpenSpec.ofChange rackLateWrong)

/-- 'undertowlaw15.RackHaste': WHATEVER THE INPUT: true; the input reads as it did. -/
def rackHasteSpec : ChangeSpec := { name := "rackHaste", fn := fun _ => fun
  | [d1, d2, d3, d4] => { results := [.lit (.bool true)], args := [d1, d2, d3, d4] }
  | _ => none }
def rackHasteRow : OpenClaim := { program := "ytpoifoanigpncaa", sum := "76cbfb2a6443277624a7b3fcec1026c831e9c440bebce0994287bbd1314d8f32", func := "undertow/undertowlaw15.RackHaste", spec := "rackHaste", unfollowed := true, recurses := true, apart := false }
def RackHasteSaid : Prop := rackHasteRow.holds Try.pinned (OpenSpec.ofChange rackHasteSpec)

/-- ITS FALSE NEIGHBOUR: 'it returns false'. Refute it at one input. -/
def rackHasteWrong : ChangeSpec := { name := "rackHaste", fn := fun _ => fun
  | [d1, d2, d3, d4] => { results := [.lit (.bool false)], args := [d1, d2, d3, d4] }
  | _ => none }
def RackHasteWrongFalsely : Prop := rackHasteRow.holds Try.pinned (OpenSpec.ofChange rackHasteWrong)

/-- 'undertowlaw15.RackFloor': WHATEVER THE INPUT: true; the input reads as it did. -/
def rackFloorSpec : ChangeSpec := { name := "rackFloor", fn := fun _ => fun
  | [d1, d2, d3, d4, d5, d6] => { results := [.lit (.bool true)], args := [d1, d2, d3, d4, d5, d6] }
  | _ => none }
def rackFloorRow : OpenClaim := { program := "ytpoifoanigpncaa", sum := "76cbfb2a6443277624a7b3fcec1026c831e9c440bebce0994287bbd1314d8f32", func := "undertow/undertowlaw15.RackFloor", spec := "rackFloor", unfollowed := true, recurses := true, apart := false }
def RackFloorSaid : Prop := rackFloorRow.holds Try.pinned (OpenSpec.ofChange rackFloorSpec)

/-- ITS FALSE NEIGHBOUR: 'it returns false'. Refute it at one input. -/
def rackFloorWrong : ChangeSpec := { name := "rackFloor", fn := fun _ => fun
  | [d1, d2, d3, d4, d5, d6] => { results := [.lit (.bool false)], args := [d1, d2, d3, d4, d5, d6] }
  | _ => none }
def RackFloorWrongFalsely : Prop := rackFloorRow.holds Try.pinned (OpenSpec.ofChange rackFloorWrong)

/-- 'undertowlaw15.RackNone': WHATEVER THE INPUT: true; the input reads as it did. -/
def rackNoneSpec : ChangeSpec := { name := "rackNone", fn := fun _ => fun
  | [d1, d2] => { results := [.lit (.bool true)], args := [d1, d2] }
  | _ => none }
def rackNoneRow : OpenClaim := { program := "ytpoifoanigpncaa", sum := "76cbfb2a6443277624a7b3fcec1026c831e9c440bebce0994287bbd1314d8f32", func := "undertow/undertowlaw15.RackNone", spec := "rackNone", unfollowed := true, recurses := true, apart := false }
def RackNoneSaid : Prop := rackNoneRow.holds Try.pinned (OpenSpec.ofChange rackNoneSpec)

/-- ITS FALSE NEIGHBOUR: 'it returns false'. Refute it at one input. -/
def rackNoneWrong : ChangeSpec := { name := "rackNone", fn := fun _ => fun
  | [d1, d2] => { results := [.lit (.bool false)], args := [d1, d2] }
  | _ => none }
def RackNoneWrongFalsely : Prop := rackNoneRow.holds Try.pinned (OpenSpec.ofChange rackNoneWrong)

/- THE SECOND FORM. 'bulk': how many values and letters a reading holds, each counted each time it is reached (what is shared counts as often as it is met; a slice's spare places count too). A statement '..UptoSaid' is the law's where the arguments, and the package variables that the reading takes, are together of bulk at most 1048576: NARROWER than '..Said'. Prove '..Said' where nothing that the law and all that it calls make is longer than what came in: it says more and counts as full. Else prove '..UptoSaid'. A law counts once. -/
mutual
def uptoBulk {H : Type} : DataW H → Nat
  | .lit (.string bytes) => bytes.length + 1
  | .lit _ => 1
  | .nil => 1
  | .ptr d => uptoBulk d + 1
  | .slice elems spare => uptoBulkAll elems + uptoBulkAll spare + 1
  | .agg parts => uptoBulkAll parts + 1
  | .iface _ d => uptoBulk d + 1
  | .map entries => uptoBulkEntries entries + 1
  | .held _ => 1
def uptoBulkAll {H : Type} : List (DataW H) → Nat
  | [] => 0
  | d :: r => uptoBulk d + uptoBulkAll r
def uptoBulkEntries {H : Type} : List (Lit × DataW H) → Nat
  | [] => 0
  | x :: r => uptoBulkEntry x + uptoBulkEntries r
def uptoBulkEntry {H : Type} : Lit × DataW H → Nat
  | (.string bytes, d) => bytes.length + uptoBulk d + 1
  | (_, d) => uptoBulk d + 1
 end
def uptoSmall : (H : Type) → List (DataW H) → Bool := fun _ ds => decide (uptoBulkAll ds ≤ 1048576)
def OpenSpec.upto (s : _root_.Go.ChangeSpec) : _root_.Go.OpenSpec := { _root_.Go.OpenSpec.ofChange s with cond := some uptoSmall }

/-- 'undertowlaw15.RackPlays', WHERE WHAT IT READS IS OF BULK AT MOST 1048576: true; the input reads as it did. -/
def rackPlaysUptoRow : OpenClaim := { program := "ytpoifoanigpncaa", sum := "76cbfb2a6443277624a7b3fcec1026c831e9c440bebce0994287bbd1314d8f32", func := "undertow/undertowlaw15.RackPlays", spec := "rackPlays", unfollowed := true, recurses := true, apart := false, narrowed := true }
def RackPlaysUptoSaid : Prop := rackPlaysUptoRow.holds Try.pinned (OpenSpec.upto rackPlaysSpec)

/-- 'undertowlaw15.RackLate', WHERE WHAT IT READS IS OF BULK AT MOST 1048576: true; the input reads as it did. -/
def rackLateUptoRow : OpenClaim := { program := "ytpoifoanigpncaa", sum := "76cbfb2a6443277624a7b3fcec1026c831e9c440bebce0994287bbd1314d8f32", func := "undertow/undertowlaw15.RackLate", spec := "rackLate", unfollowed := true, recurses := true, apart := false, narrowed := true }
def RackLateUptoSaid : Prop := rackLateUptoRow.holds Try.pinned (OpenSpec.upto rackLateSpec)

/-- 'undertowlaw15.RackHaste', WHERE WHAT IT READS IS OF BULK AT MOST 1048576: true; the input reads as it did. -/
def rackHasteUptoRow : OpenClaim := { program := "ytpoifoanigpncaa", sum := "76cbfb2a6443277624a7b3fcec1026c831e9c440bebce0994287bbd1314d8f32", func := "undertow/undertowlaw15.RackHaste", spec := "rackHaste", unfollowed := true, recurses := true, apart := false, narrowed := true }
def RackHasteUptoSaid : Prop := rackHasteUptoRow.holds Try.pinned (OpenSpec.upto rackHasteSpec)

/-- 'undertowlaw15.RackFloor', WHERE WHAT IT READS IS OF BULK AT MOST 1048576: true; the input reads as it did. -/
def rackFloorUptoRow : OpenClaim := { program := "ytpoifoanigpncaa", sum := "76cbfb2a6443277624a7b3fcec1026c831e9c440bebce0994287bbd1314d8f32", func := "undertow/undertowlaw15.RackFloor", spec := "rackFloor", unfollowed := true, recurses := true, apart := false, narrowed := true }
def RackFloorUptoSaid : Prop := rackFloorUptoRow.holds Try.pinned (OpenSpec.upto rackFloorSpec)

/-- 'undertowlaw15.RackNone', WHERE WHAT IT READS IS OF BULK AT MOST 1048576: true; the input reads as it did. -/
def rackNoneUptoRow : OpenClaim := { program := "ytpoifoanigpncaa", sum := "76cbfb2a6443277624a7b3fcec1026c831e9c440bebce0994287bbd1314d8f32", func := "undertow/undertowlaw15.RackNone", spec := "rackNone", unfollowed := true, recurses := true, apart := false, narrowed := true }
def RackNoneUptoSaid : Prop := rackNoneUptoRow.holds Try.pinned (OpenSpec.upto rackNoneSpec)

end Rows
end Go.Proofs.Ytpoifoanigpncaa
