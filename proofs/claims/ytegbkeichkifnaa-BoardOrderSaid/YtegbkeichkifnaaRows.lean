/-
  No cell of these rows narrows 'for every input' (looked for: loops, veiled, ifaces, maps, wideKeys, modest, calm, conditions, laid).
  DERIVED. THE GIVEN ROWS OF THIS SEAT. 4 by the template 'for every input the law returns true; each argument reads behind the call as it read before'; 0 by the template 'total and deterministic' (their statements: YtegbkeichkifnaaTotals.lean).
  GIVEN WITH THE SEED: the statements are not yours to turn. If you find one false, say at which input.
  Laid BY PROGRAM, IN A SANDBOX (cutbox-rows.mjs): the forced cells as the released guide's own fill.sh prints them over the translation 288cff5a0f0d40a1… (all of the seat's roots in one cut). By AI agents, Wed Nov 11 2026. No macro, syntax, notation, axiom, sorry.
-/
import Derived.Test.YtegbkeichkifnaaChecked
import GoSem.Claim
import GoSem.ClaimJoined
import GoSem.ClaimMapViews
import Derived.JoinedTies
import Derived.KernelRfl
namespace Go.Proofs.Ytegbkeichkifnaa
/- THE CELL 'sum', in the pinned program and in every row, IS THE sha256 OF THE DUMP (.gsa) THAT YtegbkeichkifnaaProg.lean LOADS. Nothing in Lean hashes anything: it is a label: what it is worth is what the hold of that sum in a sandbox is worth. -/
noncomputable def Try.pinned : Pinned := { name := "ytegbkeichkifnaa", sum := "288cff5a0f0d40a1082411112ca3078eaf54cc0f65d5478d86584d8b5ef0bdf1", checked := Try.checked }
namespace Rows
def none {H : Type} : Left H := { results := [], args := [] }

/-- 'undertowlaw09.BoardPlays': WHATEVER THE INPUT: true; the input reads as it did. -/
def boardPlaysSpec : ChangeSpec := { name := "boardPlays", fn := fun _ => fun
  | [d1, d2, d3] => { results := [.lit (.bool true)], args := [d1, d2, d3] }
  | _ => none }
def boardPlaysRow : OpenClaim := { program := "ytegbkeichkifnaa", sum := "288cff5a0f0d40a1082411112ca3078eaf54cc0f65d5478d86584d8b5ef0bdf1", func := "undertow/undertowlaw09.BoardPlays", spec := "boardPlays", unfollowed := true, recurses := true, apart := false }
def BoardPlaysSaid : Prop := boardPlaysRow.holds Try.pinned (OpenSpec.ofChange boardPlaysSpec)

/-- ITS FALSE NEIGHBOUR: 'it returns false'. Refute it at one input. -/
def boardPlaysWrong : ChangeSpec := { name := "boardPlays", fn := fun _ => fun
  | [d1, d2, d3] => { results := [.lit (.bool false)], args := [d1, d2, d3] }
  | _ => none }
def BoardPlaysWrongFalsely : Prop := boardPlaysRow.holds Try.pinned (OpenSpec.ofChange boardPlaysWrong)

/-- 'undertowlaw09.BoardCounts': WHATEVER THE INPUT: true; the input reads as it did. -/
def boardCountsSpec : ChangeSpec := { name := "boardCounts", fn := fun _ => fun
  | [d1, d2] => { results := [.lit (.bool true)], args := [d1, d2] }
  | _ => none }
def boardCountsRow : OpenClaim := { program := "ytegbkeichkifnaa", sum := "288cff5a0f0d40a1082411112ca3078eaf54cc0f65d5478d86584d8b5ef0bdf1", func := "undertow/undertowlaw09.BoardCounts", spec := "boardCounts", unfollowed := true, recurses := true, apart := false }
def BoardCountsSaid : Prop := boardCountsRow.holds Try.pinned (OpenSpec.ofChange boardCountsSpec)

/-- ITS FALSE NEIGHBOUR: 'it returns false'. Refute it at one input. -/
def boardCountsWrong : ChangeSpec := { name := "boardCounts", fn := fun _ => fun
  | [d1, d2] => { results := [.lit (.bool false)], args := [d1, d2] }
  | _ => none }
def BoardCountsWrongFalsely : Prop := boardCountsRow.holds Try.pinned (OpenSpec.ofChange boardCountsWrong)

/-- 'undertowlaw09.BoardOrder': WHATEVER THE INPUT: true; the input reads as it did. -/
def boardOrderSpec : ChangeSpec := { name := "boardOrder", fn := fun _ => fun
  | [d1, d2, d3] => { results := [.lit (.bool true)], args := [d1, d2, d3] }
  | _ => none }
def boardOrderRow : OpenClaim := { program := "ytegbkeichkifnaa", sum := "288cff5a0f0d40a1082411112ca3078eaf54cc0f65d5478d86584d8b5ef0bdf1", func := "undertow/undertowlaw09.BoardOrder", spec := "boardOrder", unfollowed := true, recurses := true, apart := false }
def BoardOrderSaid : Prop := boardOrderRow.holds Try.pinned (OpenSpec.ofChange boardOrderSpec)

/-- ITS FALSE NEIGHBOUR: 'it returns false'. Refute it at one input. -/
def boardOrderWrong : ChangeSpec := { name := "boardOrder", fn := fun _ => fun
  | [d1, d2, d3] => { results := [.lit (.bool false)], args := [d1, d2, d3] }
  | _ => none }
def BoardOrderWrongFalsely : Prop := boardOrderRow.holds Try.pinned (OpenSpec.ofChange boardOrderWrong)

/-- 'undertowlaw09.BoardNone': WHATEVER THE INPUT: true; the input reads as it did. -/
def boardNoneSpec : ChangeSpec := { name := "boardNone", fn := fun _ => fun
  | [d1, d2] => { results := [.lit (.bool true)], args := [d1, d2] }
  | _ => none }
def boardNoneRow : OpenClaim := { program := "ytegbkeichkifnaa", sum := "288cff5a0f0d40a1082411112ca3078eaf54cc0f65d5478d86584d8b5ef0bdf1", func := "undertow/undertowlaw09.BoardNone", spec := "boardNone", unfollowed := true, recurses := true, apart := false }
def BoardNoneSaid : Prop := boardNoneRow.holds Try.pinned (OpenSpec.ofChange boardNoneSpec)

/-- ITS FALSE NEIGHBOUR: 'it returns false'. Refute it at one input. -/
def boardNoneWrong : ChangeSpec := { name := "boardNone", fn := fun _ => fun
  | [d1, d2] => { results := [.lit (.bool false)], args := [d1, d2] }
  | _ => none }
def BoardNoneWrongFalsely : Prop := boardNoneRow.holds Try.pinned (OpenSpec.ofChange boardNoneWrong)

/- THE SECOND FORM. 'bulk': how many values and letters a reading holds, each counted each time it is reached (what is shared counts as often as it is met; a slice's spare places count too). A statement '..UptoSaid' is the law's where the arguments, and the package variables that the reading takes, are together of bulk at most 1048576: NARROWER than '..Said'. Prove '..Said' where nothing that the law and all that it calls make is longer than what came in: it says more and counts as full. Else prove '..UptoSaid'. A law counts once. -/
mutual
def uptoBulk {H : Type} : DataW H → Nat
  | .lit (.string bytes) => bytes.length + 1
  | .lit _ => 1
  | .nil => 1
  | .ptr d => uptoBulk d + 1
  | .slice elems spare => uptoBulkAll elems + uptoBulkAll spare + 1
  | .agg parts => uptoBulkAll parts + 1
  | .iface _ d => uptoBulk d + 1
  | .map entries => uptoBulkEntries entries + 1
  | .held _ => 1
def uptoBulkAll {H : Type} : List (DataW H) → Nat
  | [] => 0
  | d :: r => uptoBulk d + uptoBulkAll r
def uptoBulkEntries {H : Type} : List (Lit × DataW H) → Nat
  | [] => 0
  | x :: r => uptoBulkEntry x + uptoBulkEntries r
def uptoBulkEntry {H : Type} : Lit × DataW H → Nat
  | (.string bytes, d) => bytes.length + uptoBulk d + 1
  | (_, d) => uptoBulk d + 1
 end
def uptoSmall : (H : Type) → List (DataW H) → Bool := fun _ ds => decide (uptoBulkAll ds ≤ 1048576)
def OpenSpec.upto (s : _root_.Go.ChangeSpec) : _root_.Go.OpenSpec := { _root_.Go.OpenSpec.ofChange s with cond := some uptoSmall }

/-- 'undertowlaw09.BoardPlays', WHERE WHAT IT READS IS OF BULK AT MOST 1048576: true; the input reads as it did. -/
def boardPlaysUptoRow : OpenClaim := { program := "ytegbkeichkifnaa", sum := "288cff5a0f0d40a1082411112ca3078eaf54cc0f65d5478d86584d8b5ef0bdf1", func := "undertow/undertowlaw09.BoardPlays", spec := "boardPlays", unfollowed := true, recurses := true, apart := false, narrowed := true }
def BoardPlaysUptoSaid : Prop := boardPlaysUptoRow.holds Try.pinned (OpenSpec.upto boardPlaysSpec)

/-- 'undertowlaw09.BoardCounts', WHERE WHAT IT READS IS OF BULK AT MOST 1048576: true; the input reads as it did. -/
def boardCountsUptoRow : OpenClaim := { program := "ytegbkeichkifnaa", sum := "288cff5a0f0d40a1082411112ca3078eaf54cc0f65d5478d86584d8b5ef0bdf1", func := "undertow/undertowlaw09.BoardCounts", spec := "boardCounts", unfollowed := true, recurses := true, apart := false, narrowed := true }
def BoardCountsUptoSaid : Prop := boardCountsUptoRow.holds Try.pinned (OpenSpec.upto boardCountsSpec)

/-- 'undertowlaw09.BoardOrder', WHERE WHAT IT READS IS OF BULK AT MOST 1048576: true; the input reads as it did. -/
def boardOrderUptoRow : OpenClaim := { program := "ytegbkeichkifnaa", sum := "288cff5a0f0d40a1082411112ca3078eaf54cc0f65d5478d86584d8b5ef0bdf1", func := "undertow/undertowlaw09.BoardOrder", spec := "boardOrder", unfollowed := true, recurses := true, apart := false, narrowed := true }
def BoardOrderUptoSaid : Prop := boardOrderUptoRow.holds Try.pinned (OpenSpec.upto boardOrderSpec)

/-- 'undertowlaw09.BoardNone', WHERE WHAT IT READS IS OF BULK AT MOST 1048576: true; the input reads as it did. -/
def boardNoneUptoRow : OpenClaim := { program := "ytegbkeichkifnaa", sum := "288cff5a0f0d40a1082411112ca3078eaf54cc0f65d5478d86584d8b5ef0bdf1", func := "undertow/undertowlaw09.BoardNone", spec := "boardNone", unfollowed := true, recurses := true, apart := false, narrowed := true }
def BoardNoneUptoSaid : Prop := boardNoneUptoRow.holds Try.pinned (OpenSpec.upto boardNoneSpec)

end Rows
end Go.Proofs.Ytegbkeichkifnaa
