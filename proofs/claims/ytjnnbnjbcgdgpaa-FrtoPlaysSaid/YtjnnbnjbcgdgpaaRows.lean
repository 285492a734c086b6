/-
  No cell of these rows narrows 'for every input' (looked for: loops, veiled, ifaces, maps, wideKeys, modest, calm, conditions, laid).
  DERIVED. THE GIVEN ROWS OF THIS SEAT. 3 by the template 'for every input the law returns true; each argument reads behind the call as it read before'; 0 by the template 'total and deterministic' (their statements: YtjnnbnjbcgdgpaaTotals.lean).
  GIVEN WITH THE SEED: the statements are not yours to turn. If you find one false, say at which input.
  Laid BY PROGRAM, IN A SANDBOX (cutbox-rows.mjs): the forced cells as the released guide's own fill.sh prints them over the translation 2fa7ef1bbe2055a4… (all of the seat's roots in one cut). By AI agents, Wed Nov 11 2026. No macro, syntax, notation, axiom, sorry.
-/
import Derived.Test.YtjnnbnjbcgdgpaaChecked
import GoSem.Claim
import GoSem.ClaimJoined
import GoSem.ClaimMapViews
import Derived.JoinedTies
import Derived.KernelRfl
namespace Go.Proofs.Ytjnnbnjbcgdgpaa
/- THE CELL 'sum', in the pinned program and in every row, IS THE sha256 OF THE DUMP (.gsa) THAT YtjnnbnjbcgdgpaaProg.lean LOADS. Nothing in Lean hashes anything: it is a label: what it is worth is what the hold of that sum in a sandbox is worth. -/
noncomputable def Try.pinned : Pinned := { name := "ytjnnbnjbcgdgpaa", sum := "2fa7ef1bbe2055a4c0d38c0cdf5a908eac55e436cdac5bd4c337dadc041385df", checked := Try.checked }
namespace Rows
def none {H : Type} : Left H := { results := [], args := [] }

/-- 'undertowlaw20.FrtoPlays': WHATEVER THE INPUT: true; the input reads as it did. -/
def frtoPlaysSpec : ChangeSpec := { name := "frtoPlays", fn := fun _ => fun
  | [d] => { results := [.lit (.bool true)], args := [d] }
  | _ => none }
def frtoPlaysRow : OpenClaim := { program := "ytjnnbnjbcgdgpaa", sum := "2fa7ef1bbe2055a4c0d38c0cdf5a908eac55e436cdac5bd4c337dadc041385df", func := "undertow/undertowlaw20.FrtoPlays", spec := "frtoPlays", apart := false }
def FrtoPlaysSaid : Prop := frtoPlaysRow.holds Try.pinned (OpenSpec.ofChange frtoPlaysSpec)

/-- ITS FALSE NEIGHBOUR: 'it returns false'. Refute it at one input. -/
def frtoPlaysWrong : ChangeSpec := { name := "frtoPlays", fn := fun _ => fun
  | [d] => { results := [.lit (.bool false)], args := [d] }
  | _ => none }
def FrtoPlaysWrongFalsely : Prop := frtoPlaysRow.holds Try.pinned (OpenSpec.ofChange frtoPlaysWrong)

/-- 'undertowlaw20.FrtoTwice': WHATEVER THE INPUT: true; the input reads as it did. -/
def frtoTwiceSpec : ChangeSpec := { name := "frtoTwice", fn := fun _ => fun
  | [d] => { results := [.lit (.bool true)], args := [d] }
  | _ => none }
def frtoTwiceRow : OpenClaim := { program := "ytjnnbnjbcgdgpaa", sum := "2fa7ef1bbe2055a4c0d38c0cdf5a908eac55e436cdac5bd4c337dadc041385df", func := "undertow/undertowlaw20.FrtoTwice", spec := "frtoTwice", apart := false }
def FrtoTwiceSaid : Prop := frtoTwiceRow.holds Try.pinned (OpenSpec.ofChange frtoTwiceSpec)

/-- ITS FALSE NEIGHBOUR: 'it returns false'. Refute it at one input. -/
def frtoTwiceWrong : ChangeSpec := { name := "frtoTwice", fn := fun _ => fun
  | [d] => { results := [.lit (.bool false)], args := [d] }
  | _ => none }
def FrtoTwiceWrongFalsely : Prop := frtoTwiceRow.holds Try.pinned (OpenSpec.ofChange frtoTwiceWrong)

/-- 'undertowlaw20.FrtoNone': WHATEVER THE INPUT: true; the input reads as it did. -/
def frtoNoneSpec : ChangeSpec := { name := "frtoNone", fn := fun _ => fun
  | [d1, d2, d3] => { results := [.lit (.bool true)], args := [d1, d2, d3] }
  | _ => none }
def frtoNoneRow : OpenClaim := { program := "ytjnnbnjbcgdgpaa", sum := "2fa7ef1bbe2055a4c0d38c0cdf5a908eac55e436cdac5bd4c337dadc041385df", func := "undertow/undertowlaw20.FrtoNone", spec := "frtoNone", apart := false }
def FrtoNoneSaid : Prop := frtoNoneRow.holds Try.pinned (OpenSpec.ofChange frtoNoneSpec)

/-- ITS FALSE NEIGHBOUR: 'it returns false'. Refute it at one input. -/
def frtoNoneWrong : ChangeSpec := { name := "frtoNone", fn := fun _ => fun
  | [d1, d2, d3] => { results := [.lit (.bool false)], args := [d1, d2, d3] }
  | _ => none }
def FrtoNoneWrongFalsely : Prop := frtoNoneRow.holds Try.pinned (OpenSpec.ofChange frtoNoneWrong)

/- THE SECOND FORM. 'bulk': how many values and letters a reading holds, each counted each time it is reached (what is shared counts as often as it is met; a slice's spare places count too). A statement '..UptoSaid' is the law's where the arguments, and the package variables that the reading takes, are together of bulk at most 1048576: NARROWER than '..Said'. Prove '..Said' where nothing that the law and all that it calls make is longer than what came in: it says more and counts as full. Else prove '..UptoSaid'. A law counts once. -/
mutual
def uptoBulk {H : Type} : DataW H → Nat
  | .lit (.string bytes) => bytes.length + 1
  | .lit _ => 1
  | .nil => 1
  | .ptr d => uptoBulk d + 1
  | .slice elems spare => uptoBulkAll elems + uptoBulkAll spare + 1
  | .agg parts => uptoBulkAll parts + 1
  | .iface _ d => uptoBulk d + 1
  | .map entries => uptoBulkEntries entries + 1
  | .held _ => 1
def uptoBulkAll {H : Type} : List (DataW H) → Nat
  | [] => 0
  | d :: r => uptoBulk d + uptoBulkAll r
def uptoBulkEntries {H : Type} : List (Lit × DataW H) → Nat
  | [] => 0
  | x :: r => uptoBulkEntry x + uptoBulkEntries r
def uptoBulkEntry {H : Type} : Lit × DataW H → Nat
  | (.string bytes, d) => bytes.length + uptoBulk d + 1
  | (_, d) => uptoBulk d + 1
 end
def uptoSmall : (H : Type) → List (DataW H) → Bool := fun _ ds => decide (uptoBulkAll ds ≤ 1048576)
def OpenSpec.upto (s : _root_.Go.ChangeSpec) : _root_.Go.OpenSpec := { _root_.Go.OpenSpec.ofChange s with cond := some uptoSmall }

/-- 'undertowlaw20.FrtoPlays', WHERE WHAT IT READS IS OF BULK AT MOST 1048576: true; the input reads as it did. -/
def frtoPlaysUptoRow : OpenClaim := { program := "ytjnnbnjbcgdgpaa", sum := "2fa7ef1bbe2055a4c0d38c0cdf5a908eac55e436cdac5bd4c337dadc041385df", func := "undertow/undertowlaw20.FrtoPlays", spec := "frtoPlays", apart := false, narrowed := true }
def FrtoPlaysUptoSaid : Prop := frtoPlaysUptoRow.holds Try.pinned (OpenSpec.upto frtoPlaysSpec)

/-- 'undertowlaw20.FrtoTwice', WHERE WHAT IT READS IS OF BULK AT MOST 1048576: true; the input reads as it did. -/
def frtoTwiceUptoRow : OpenClaim := { program := "ytjnnbnjbcgdgpaa", sum := "2fa7ef1bbe2055a4c0d38c0cdf5a908eac55e436cdac5bd4c337dadc041385df", func := "undertow/undertowlaw20.FrtoTwice", spec := "frtoTwice", apart := false, narrowed := true }
def FrtoTwiceUptoSaid : Prop := frtoTwiceUptoRow.holds Try.pinned (OpenSpec.upto frtoTwiceSpec)

/-- 'undertowlaw20.FrtoNone', WHERE WHAT IT READS IS OF BULK AT MOST 1048576: true; the input reads as it did. -/
def frtoNoneUptoRow : OpenClaim := { program := "ytjnnbnjbcgdgpaa", sum := "2fa7ef1bbe2055a4c0d38c0cdf5a908eac55e436cdac5bd4c337dadc041385df", func := "undertow/undertowlaw20.FrtoNone", spec := "frtoNone", apart := false, narrowed := true }
def FrtoNoneUptoSaid : Prop := frtoNoneUptoRow.holds Try.pinned (OpenSpec.upto frtoNoneSpec)

end Rows
end Go.Proofs.Ytjnnbnjbcgdgpaa
