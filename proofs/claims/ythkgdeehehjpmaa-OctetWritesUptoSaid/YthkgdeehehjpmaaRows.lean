/-
  No cell of these rows narrows 'for every input' (looked for: loops, veiled, ifaces, maps, wideKeys, modest, calm, conditions, laid).
  DERIVED. THE GIVEN ROWS OF THIS SEAT. 10 by the template 'for every input the law returns true; each argument reads behind the call as it read before'; 0 by the template 'total and deterministic' (their statements: YthkgdeehehjpmaaTotals.lean).
  GIVEN WITH THE SEED: the statements are not yours to turn. If you find one false, say at which input.
  Laid BY PROGRAM, IN A SANDBOX (cutbox-rows.mjs): the forced cells as the released guide's own fill.sh prints them over the translation 7feeb8c46bbb23d7… (all of the seat's roots in one cut). By AI agents, Wed Nov 11 2026. No macro, syntax, notation, axiom, sorry.
-/
import Derived.Test.YthkgdeehehjpmaaChecked
import GoSem.Claim
import GoSem.ClaimJoined
import GoSem.ClaimMapViews
import Derived.JoinedTies
import Derived.KernelRfl
namespace Go.Proofs.Ythkgdeehehjpmaa
/- THE CELL 'sum', in the pinned program and in every row, IS THE sha256 OF THE DUMP (.gsa) THAT YthkgdeehehjpmaaProg.lean LOADS. Nothing in Lean hashes anything: it is a label: what it is worth is what the hold of that sum in a sandbox is worth. -/
noncomputable def Try.pinned : Pinned := { name := "ythkgdeehehjpmaa", sum := "7feeb8c46bbb23d7e59b1f5e1992c01cb893917386d9e79d8feb93d6c7a28004", checked := Try.checked }
namespace Rows
def none {H : Type} : Left H := { results := [], args := [] }

/-- 'undertowlaw01.SeqDist': WHATEVER THE INPUT: true; the input reads as it did. -/
def seqDistSpec : ChangeSpec := { name := "seqDist", fn := fun _ => fun
  | [d1, d2, d3] => { results := [.lit (.bool true)], args := [d1, d2, d3] }
  | _ => none }
def seqDistRow : OpenClaim := { program := "ythkgdeehehjpmaa", sum := "7feeb8c46bbb23d7e59b1f5e1992c01cb893917386d9e79d8feb93d6c7a28004", func := "undertow/undertowlaw01.SeqDist", spec := "seqDist", apart := false }
def SeqDistSaid : Prop := seqDistRow.holds Try.pinned (OpenSpec.ofChange seqDistSpec)

/-- ITS FALSE NEIGHBOUR: 'it returns false'. Refute it at one input. -/
def seqDistWrong : ChangeSpec := { name := "seqDist", fn := fun _ => fun
  | [d1, d2, d3] => { results := [.lit (.bool false)], args := [d1, d2, d3] }
  | _ => none }
def SeqDistWrongFalsely : Prop := seqDistRow.holds Try.pinned (OpenSpec.ofChange seqDistWrong)

/-- 'undertowlaw01.SeqBetween': WHATEVER THE INPUT: true; the input reads as it did. -/
def seqBetweenSpec : ChangeSpec := { name := "seqBetween", fn := fun _ => fun
  | [d1, d2, d3] => { results := [.lit (.bool true)], args := [d1, d2, d3] }
  | _ => none }
def seqBetweenRow : OpenClaim := { program := "ythkgdeehehjpmaa", sum := "7feeb8c46bbb23d7e59b1f5e1992c01cb893917386d9e79d8feb93d6c7a28004", func := "undertow/undertowlaw01.SeqBetween", spec := "seqBetween", apart := false }
def SeqBetweenSaid : Prop := seqBetweenRow.holds Try.pinned (OpenSpec.ofChange seqBetweenSpec)

/-- ITS FALSE NEIGHBOUR: 'it returns false'. Refute it at one input. -/
def seqBetweenWrong : ChangeSpec := { name := "seqBetween", fn := fun _ => fun
  | [d1, d2, d3] => { results := [.lit (.bool false)], args := [d1, d2, d3] }
  | _ => none }
def SeqBetweenWrongFalsely : Prop := seqBetweenRow.holds Try.pinned (OpenSpec.ofChange seqBetweenWrong)

/-- 'undertowlaw01.SeqUnwrap': WHATEVER THE INPUT: true; the input reads as it did. -/
def seqUnwrapSpec : ChangeSpec := { name := "seqUnwrap", fn := fun _ => fun
  | [d1, d2] => { results := [.lit (.bool true)], args := [d1, d2] }
  | _ => none }
def seqUnwrapRow : OpenClaim := { program := "ythkgdeehehjpmaa", sum := "7feeb8c46bbb23d7e59b1f5e1992c01cb893917386d9e79d8feb93d6c7a28004", func := "undertow/undertowlaw01.SeqUnwrap", spec := "seqUnwrap", apart := false }
def SeqUnwrapSaid : Prop := seqUnwrapRow.holds Try.pinned (OpenSpec.ofChange seqUnwrapSpec)

/-- ITS FALSE NEIGHBOUR: 'it returns false'. Refute it at one input. -/
def seqUnwrapWrong : ChangeSpec := { name := "seqUnwrap", fn := fun _ => fun
  | [d1, d2] => { results := [.lit (.bool false)], args := [d1, d2] }
  | _ => none }
def SeqUnwrapWrongFalsely : Prop := seqUnwrapRow.holds Try.pinned (OpenSpec.ofChange seqUnwrapWrong)

/-- 'undertowlaw01.SeqBack': WHATEVER THE INPUT: true; the input reads as it did. -/
def seqBackSpec : ChangeSpec := { name := "seqBack", fn := fun _ => fun
  | [d1, d2] => { results := [.lit (.bool true)], args := [d1, d2] }
  | _ => none }
def seqBackRow : OpenClaim := { program := "ythkgdeehehjpmaa", sum := "7feeb8c46bbb23d7e59b1f5e1992c01cb893917386d9e79d8feb93d6c7a28004", func := "undertow/undertowlaw01.SeqBack", spec := "seqBack", apart := false }
def SeqBackSaid : Prop := seqBackRow.holds Try.pinned (OpenSpec.ofChange seqBackSpec)

/-- ITS FALSE NEIGHBOUR: 'it returns false'. Refute it at one input. -/
def seqBackWrong : ChangeSpec := { name := "seqBack", fn := fun _ => fun
  | [d1, d2] => { results := [.lit (.bool false)], args := [d1, d2] }
  | _ => none }
def SeqBackWrongFalsely : Prop := seqBackRow.holds Try.pinned (OpenSpec.ofChange seqBackWrong)

/-- 'undertowlaw01.SeqTurns': WHATEVER THE INPUT: true; the input reads as it did. -/
def seqTurnsSpec : ChangeSpec := { name := "seqTurns", fn := fun _ => fun
  | [d1, d2, d3] => { results := [.lit (.bool true)], args := [d1, d2, d3] }
  | _ => none }
def seqTurnsRow : OpenClaim := { program := "ythkgdeehehjpmaa", sum := "7feeb8c46bbb23d7e59b1f5e1992c01cb893917386d9e79d8feb93d6c7a28004", func := "undertow/undertowlaw01.SeqTurns", spec := "seqTurns", apart := false }
def SeqTurnsSaid : Prop := seqTurnsRow.holds Try.pinned (OpenSpec.ofChange seqTurnsSpec)

/-- ITS FALSE NEIGHBOUR: 'it returns false'. Refute it at one input. -/
def seqTurnsWrong : ChangeSpec := { name := "seqTurns", fn := fun _ => fun
  | [d1, d2, d3] => { results := [.lit (.bool false)], args := [d1, d2, d3] }
  | _ => none }
def SeqTurnsWrongFalsely : Prop := seqTurnsRow.holds Try.pinned (OpenSpec.ofChange seqTurnsWrong)

/-- 'undertowlaw01.SeqLatest': WHATEVER THE INPUT: true; the input reads as it did. -/
def seqLatestSpec : ChangeSpec := { name := "seqLatest", fn := fun _ => fun
  | [d1, d2] => { results := [.lit (.bool true)], args := [d1, d2] }
  | _ => none }
def seqLatestRow : OpenClaim := { program := "ythkgdeehehjpmaa", sum := "7feeb8c46bbb23d7e59b1f5e1992c01cb893917386d9e79d8feb93d6c7a28004", func := "undertow/undertowlaw01.SeqLatest", spec := "seqLatest", apart := false }
def SeqLatestSaid : Prop := seqLatestRow.holds Try.pinned (OpenSpec.ofChange seqLatestSpec)

/-- ITS FALSE NEIGHBOUR: 'it returns false'. Refute it at one input. -/
def seqLatestWrong : ChangeSpec := { name := "seqLatest", fn := fun _ => fun
  | [d1, d2] => { results := [.lit (.bool false)], args := [d1, d2] }
  | _ => none }
def SeqLatestWrongFalsely : Prop := seqLatestRow.holds Try.pinned (OpenSpec.ofChange seqLatestWrong)

/-- 'undertowlaw02.OctetWrites': WHATEVER THE INPUT: true; the input reads as it did. -/
def octetWritesSpec : ChangeSpec := { name := "octetWrites", fn := fun _ => fun
  | [d] => { results := [.lit (.bool true)], args := [d] }
  | _ => none }
def octetWritesRow : OpenClaim := { program := "ythkgdeehehjpmaa", sum := "7feeb8c46bbb23d7e59b1f5e1992c01cb893917386d9e79d8feb93d6c7a28004", func := "undertow/undertowlaw02.OctetWrites", spec := "octetWrites", apart := false }
def OctetWritesSaid : Prop := octetWritesRow.holds Try.pinned (OpenSpec.ofChange octetWritesSpec)

/-- ITS FALSE NEIGHBOUR: 'it returns false'. Refute it at one input. -/
def octetWritesWrong : ChangeSpec := { name := "octetWrites", fn := fun _ => fun
  | [d] => { results := [.lit (.bool false)], args := [d] }
  | _ => none }
def OctetWritesWrongFalsely : Prop := octetWritesRow.holds Try.pinned (OpenSpec.ofChange octetWritesWrong)

/-- 'undertowlaw02.OctetReads': WHATEVER THE INPUT: true; the input reads as it did. -/
def octetReadsSpec : ChangeSpec := { name := "octetReads", fn := fun _ => fun
  | [d1, d2] => { results := [.lit (.bool true)], args := [d1, d2] }
  | _ => none }
def octetReadsRow : OpenClaim := { program := "ythkgdeehehjpmaa", sum := "7feeb8c46bbb23d7e59b1f5e1992c01cb893917386d9e79d8feb93d6c7a28004", func := "undertow/undertowlaw02.OctetReads", spec := "octetReads", apart := false }
def OctetReadsSaid : Prop := octetReadsRow.holds Try.pinned (OpenSpec.ofChange octetReadsSpec)

/-- ITS FALSE NEIGHBOUR: 'it returns false'. Refute it at one input. -/
def octetReadsWrong : ChangeSpec := { name := "octetReads", fn := fun _ => fun
  | [d1, d2] => { results := [.lit (.bool false)], args := [d1, d2] }
  | _ => none }
def OctetReadsWrongFalsely : Prop := octetReadsRow.holds Try.pinned (OpenSpec.ofChange octetReadsWrong)

/-- 'undertowlaw02.OctetBack': WHATEVER THE INPUT: true; the input reads as it did. -/
def octetBackSpec : ChangeSpec := { name := "octetBack", fn := fun _ => fun
  | [d] => { results := [.lit (.bool true)], args := [d] }
  | _ => none }
def octetBackRow : OpenClaim := { program := "ythkgdeehehjpmaa", sum := "7feeb8c46bbb23d7e59b1f5e1992c01cb893917386d9e79d8feb93d6c7a28004", func := "undertow/undertowlaw02.OctetBack", spec := "octetBack", apart := false }
def OctetBackSaid : Prop := octetBackRow.holds Try.pinned (OpenSpec.ofChange octetBackSpec)

/-- ITS FALSE NEIGHBOUR: 'it returns false'. Refute it at one input. -/
def octetBackWrong : ChangeSpec := { name := "octetBack", fn := fun _ => fun
  | [d] => { results := [.lit (.bool false)], args := [d] }
  | _ => none }
def OctetBackWrongFalsely : Prop := octetBackRow.holds Try.pinned (OpenSpec.ofChange octetBackWrong)

/-- 'undertowlaw02.OctetNone': WHATEVER THE INPUT: true; the input reads as it did. -/
def octetNoneSpec : ChangeSpec := { name := "octetNone", fn := fun _ => fun
  | [d1, d2] => { results := [.lit (.bool true)], args := [d1, d2] }
  | _ => none }
def octetNoneRow : OpenClaim := { program := "ythkgdeehehjpmaa", sum := "7feeb8c46bbb23d7e59b1f5e1992c01cb893917386d9e79d8feb93d6c7a28004", func := "undertow/undertowlaw02.OctetNone", spec := "octetNone", apart := false }
def OctetNoneSaid : Prop := octetNoneRow.holds Try.pinned (OpenSpec.ofChange octetNoneSpec)

/-- ITS FALSE NEIGHBOUR: 'it returns false'. Refute it at one input. -/
def octetNoneWrong : ChangeSpec := { name := "octetNone", fn := fun _ => fun
  | [d1, d2] => { results := [.lit (.bool false)], args := [d1, d2] }
  | _ => none }
def OctetNoneWrongFalsely : Prop := octetNoneRow.holds Try.pinned (OpenSpec.ofChange octetNoneWrong)

/- THE SECOND FORM. 'bulk': how many values and letters a reading holds, each counted each time it is reached (what is shared counts as often as it is met; a slice's spare places count too). A statement '..UptoSaid' is the law's where the arguments, and the package variables that the reading takes, are together of bulk at most 1048576: NARROWER than '..Said'. Prove '..Said' where nothing that the law and all that it calls make is longer than what came in: it says more and counts as full. Else prove '..UptoSaid'. A law counts once. -/
mutual
def uptoBulk {H : Type} : DataW H → Nat
  | .lit (.string bytes) => bytes.length + 1
  | .lit _ => 1
  | .nil => 1
  | .ptr d => uptoBulk d + 1
  | .slice elems spare => uptoBulkAll elems + uptoBulkAll spare + 1
  | .agg parts => uptoBulkAll parts + 1
  | .iface _ d => uptoBulk d + 1
  | .map entries => uptoBulkEntries entries + 1
  | .held _ => 1
def uptoBulkAll {H : Type} : List (DataW H) → Nat
  | [] => 0
  | d :: r => uptoBulk d + uptoBulkAll r
def uptoBulkEntries {H : Type} : List (Lit × DataW H) → Nat
  | [] => 0
  | x :: r => uptoBulkEntry x + uptoBulkEntries r
def uptoBulkEntry {H : Type} : Lit × DataW H → Nat
  | (.string bytes, d) => bytes.length + uptoBulk d + 1
  | (_, d) => uptoBulk d + 1
 end
def uptoSmall : (H : Type) → List (DataW H) → Bool := fun _ ds => decide (uptoBulkAll ds ≤ 1048576)
def OpenSpec.upto (s : _root_.Go.ChangeSpec) : _root_.Go.OpenSpec := { _root_.Go.OpenSpec.ofChange s with cond := some uptoSmall }

/-- 'undertowlaw01.SeqDist', WHERE WHAT IT READS IS OF BULK AT MOST 1048576: true; the input reads as it did. -/
def seqDistUptoRow : OpenClaim := { program := "ythkgdeehehjpmaa", sum := "7feeb8c46bbb23d7e59b1f5e1992c01cb893917386d9e79d8feb93d6c7a28004", func := "undertow/undertowlaw01.SeqDist", spec := "seqDist", apart := false, narrowed := true }
def SeqDistUptoSaid : Prop := seqDistUptoRow.holds Try.pinned (OpenSpec.upto seqDistSpec)

/-- 'undertowlaw01.SeqBetween', WHERE WHAT IT READS IS OF BULK AT MOST 1048576: true; the input reads as it did. -/
def seqBetweenUptoRow : OpenClaim := { program := "ythkgdeehehjpmaa", sum := "7feeb8c46bbb23d7e59b1f5e1992c01cb893917386d9e79d8feb93d6c7a28004", func := "undertow/undertowlaw01.SeqBetween", spec := "seqBetween", apart := false, narrowed := true }
def SeqBetweenUptoSaid : Prop := seqBetweenUptoRow.holds Try.pinned (OpenSpec.upto seqBetweenSpec)

/-- 'undertowlaw01.SeqUnwrap', WHERE WHAT IT READS IS OF BULK AT MOST 1048576: true; the input reads as it did. -/
def seqUnwrapUptoRow : OpenClaim := { program := "ythkgdeehehjpmaa", sum := "7feeb8c46bbb23d7e59b1f5e1992c01cb893917386d9e79d8feb93d6c7a28004", func := "undertow/undertowlaw01.SeqUnwrap", spec := "seqUnwrap", apart := false, narrowed := true }
def SeqUnwrapUptoSaid : Prop := seqUnwrapUptoRow.holds Try.pinned (OpenSpec.upto seqUnwrapSpec)

/-- 'undertowlaw01.SeqBack', WHERE WHAT IT READS IS OF BULK AT MOST 1048576: true; the input reads as it did. -/
def seqBackUptoRow : OpenClaim := { program := "ythkgdeehehjpmaa", sum := "7feeb8c46bbb23d7e59b1f5e1992c01cb893917386d9e79d8feb93d6c7a28004", func := "undertow/undertowlaw01.SeqBack", spec := "seqBack", apart := false, narrowed := true }
def SeqBackUptoSaid : Prop := seqBackUptoRow.holds Try.pinned (OpenSpec.upto seqBackSpec)

/-- 'undertowlaw01.SeqTurns', WHERE WHAT IT READS IS OF BULK AT MOST 1048576: true; the input reads as it did. -/
def seqTurnsUptoRow : OpenClaim := { program := "ythkgdeehehjpmaa", sum := "7feeb8c46bbb23d7e59b1f5e1992c01cb893917386d9e79d8feb93d6c7a28004", func := "undertow/undertowlaw01.SeqTurns", spec := "seqTurns", apart := false, narrowed := true }
def SeqTurnsUptoSaid : Prop := seqTurnsUptoRow.holds Try.pinned (OpenSpec.upto seqTurnsSpec)

/-- 'undertowlaw01.SeqLatest', WHERE WHAT IT READS IS OF BULK AT MOST 1048576: true; the input reads as it did. -/
def seqLatestUptoRow : OpenClaim := { program := "ythkgdeehehjpmaa", sum := "7feeb8c46bbb23d7e59b1f5e1992c01cb893917386d9e79d8feb93d6c7a28004", func := "undertow/undertowlaw01.SeqLatest", spec := "seqLatest", apart := false, narrowed := true }
def SeqLatestUptoSaid : Prop := seqLatestUptoRow.holds Try.pinned (OpenSpec.upto seqLatestSpec)

/-- 'undertowlaw02.OctetWrites', WHERE WHAT IT READS IS OF BULK AT MOST 1048576: true; the input reads as it did. -/
def octetWritesUptoRow : OpenClaim := { program := "ythkgdeehehjpmaa", sum := "7feeb8c46bbb23d7e59b1f5e1992c01cb893917386d9e79d8feb93d6c7a28004", func := "undertow/undertowlaw02.OctetWrites", spec := "octetWrites", apart := false, narrowed := true }
def OctetWritesUptoSaid : Prop := octetWritesUptoRow.holds Try.pinned (OpenSpec.upto octetWritesSpec)

/-- 'undertowlaw02.OctetReads', WHERE WHAT IT READS IS OF BULK AT MOST 1048576: true; the input reads as it did. -/
def octetReadsUptoRow : OpenClaim := { program := "ythkgdeehehjpmaa", sum := "7feeb8c46bbb23d7e59b1f5e1992c01cb893917386d9e79d8feb93d6c7a28004", func := "undertow/undertowlaw02.OctetReads", spec := "octetReads", apart := false, narrowed := true }
def OctetReadsUptoSaid : Prop := octetReadsUptoRow.holds Try.pinned (OpenSpec.upto octetReadsSpec)

/-- 'undertowlaw02.OctetBack', WHERE WHAT IT READS IS OF BULK AT MOST 1048576: true; the input reads as it did. -/
def octetBackUptoRow : OpenClaim := { program := "ythkgdeehehjpmaa", sum := "7feeb8c46bbb23d7e59b1f5e1992c01cb893917386d9e79d8feb93d6c7a28004", func := "undertow/undertowlaw02.OctetBack", spec := "octetBack", apart := false, narrowed := true }
def OctetBackUptoSaid : Prop := octetBackUptoRow.holds Try.pinned (OpenSpec.upto octetBackSpec)

/-- 'undertowlaw02.OctetNone', WHERE WHAT IT READS IS OF BULK AT MOST 1048576: true; the input reads as it did. -/
def octetNoneUptoRow : OpenClaim := { program := "ythkgdeehehjpmaa", sum := "7feeb8c46bbb23d7e59b1f5e1992c01cb893917386d9e79d8feb93d6c7a28004", func := "undertow/undertowlaw02.OctetNone", spec := "octetNone", apart := false, narrowed := true }
def OctetNoneUptoSaid : Prop := octetNoneUptoRow.holds Try.pinned (OpenSpec.upto octetNoneSpec)

end Rows
end Go.Proofs.Ythkgdeehehjpmaa
