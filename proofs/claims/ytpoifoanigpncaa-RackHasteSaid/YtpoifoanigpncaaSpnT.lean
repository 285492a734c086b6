/-
  Spans, as the reference has them: Touch.
-/
import Derived.Test.YtpoifoanigpncaaSpnQ
namespace Go.Proofs.Ytpoifoanigpncaa.sp
open Go.RowKit aid mem
attribute [local go_sem ↓] Go.wp_at_zero Go.wp_at_succ
set_option linter.unusedVariables false

/-- two boxes, wherever they lie -/
structure MP (w0 : World) (A C : Nat) (a b : Int × Int) (w : World) : Prop where
  a : SpAt w A a
  b : SpAt w C b
  below : Below w0.heap.size w0 w
theorem MP.later {w0 : World} {A C : Nat} {a b : Int × Int} {w w' : World} (h : MP w0 A C a b w) (hb : Below w.heap.size w w') : MP w0 A C a b w' :=
  ⟨h.a.later hb, h.b.later hb, h.below.trans (hb.mono h.below.size)⟩

end Go.Proofs.Ytpoifoanigpncaa.sp
